import Derived.Test.YtbblhkjkokbheaaAbVs
import Derived.Test.YtbblhkjkokbheaaGi
import Derived.Test.YtbblhkjkokbheaaGf
import Derived.Test.YtbblhkjkokbheaaProg
import Derived.Shelf.RegionOpenPlain
import Derived.WalkKit
import Derived.Deep.LoopGhost
import Derived.Deep.RegionLaw
import Derived.Lib.Walk
import Derived.Lib.SliceRun
import Derived.Lib.Hide
namespace Go.Proofs.Ytbblhkjkokbheaa.ab
open Go Go.Ab Go.Proofs Go.RowKit Go.Shelf
attribute [local go_sem] Oper.semAt_some
set_option linter.unusedVariables false
theorem run_clear_cells {P : Program} (w : World) (t e ty : TypeId) (z : Value) (ht : P.underlying t = some (.slice e)) (hv : ∀ w, (zeroValue e).run P w = .ok z w) (b o n c : Nat) (hn : 0 < n)
    (h1 : ∀ v ∈ (Builtin.zeroCells z.cells n).toList, v.oneCell' = true) (hc : ∀ j, j < (Builtin.zeroCells z.cells n).toList.length → (w.cell? ⟨b, o + j, none⟩).isSome = true) (hf : ∀ j, j < (Builtin.zeroCells z.cells n).toList.length → w.frozen? ⟨b, o + j, none⟩ = false) :
    (Builtin.clear_ #[t] ty #[.slice (some ⟨b, o, none⟩) n c]).run P w = .ok (.tuple #[]) (w.setCells b o (Builtin.zeroCells z.cells n).toList) := by
  have hst := run_storeCells_cells (P := P) b o (Builtin.zeroCells z.cells n).toList 0 w (by simpa using hc) (by simpa using hf) h1
  simp only [Nat.add_zero] at hst
  obtain ⟨m, rfl⟩ : ∃ m, n = m + 1 := ⟨n - 1, by omega⟩
  simp [Builtin.clear_, run_underlying ht, hv, hst]
def z26 : Array Value := #[.float .f32 0, .float .f32 0, .float .f32 0, .float .f32 0, .float .f32 0, .float .f32 0, .float .f32 0, .float .f32 0, .float .f32 0, .float .f32 0, .float .f32 0, .float .f32 0, .float .f32 0, .float .f32 0, .float .f32 0, .float .f32 0, .float .f32 0, .float .f32 0]
theorem info26 : ∃ i z, Try.prog.info? 26 = some i ∧ i.zero = some z ∧ i.size = 18 ∧ z.cells = z26 := by
  have h : ((Try.prog.info? 26).bind fun i => i.zero.map fun z => (i.size, z.cells)) = some (18, z26) := by kernel_rfl
  cases hi : Try.prog.info? 26 with
  | none => rw [hi] at h; cases h
  | some i =>
    rw [hi] at h
    cases hz : i.zero with
    | none => simp [hz] at h
    | some z =>
      simp [hz] at h
      exact ⟨i, z, rfl, hz, h.1, h.2⟩
set_option maxRecDepth 1000000 in
set_option maxHeartbeats 4000000 in
theorem del84 (blk off n cap l : Nat) (D : Nat → Value) (w : World) (hcell : ∀ t, t < n * 18 → w.cell? ⟨blk, off + t, none⟩ = some (D t) ∧ w.frozen? ⟨blk, off + t, none⟩ = false) (h1 : ∀ t, t < n * 18 → (D t).oneCell' = true) (hl : l < n) (hnc : n ≤ cap) :
    Calls Try.prog 84 #[.slice (some ⟨blk, off, none⟩) n cap, .int .i64 l, .int .i64 (l + 1)] w fun e w' => e = .returned (.slice (some ⟨blk, off, none⟩) (n - 1) cap) ∧ w' = (w.drew.setCells blk (off + l * 18) ((List.range ((n - (l + 1)) * 18)).map fun t => D ((l + 1) * 18 + t))).setCells blk (off + (n - 1) * 18) (Builtin.zeroCells z26 1).toList := by
  obtain ⟨i0, z0, hi0, hz0, hz1, hzc⟩ := info26
  obtain ⟨news, hnews⟩ : ∃ news, news = ((List.range ((n - (l + 1)) * 18)).map fun t => D ((l + 1) * 18 + t)) := ⟨_, rfl⟩
  rw [← hnews]
  have hlen : news.length = (n - (l + 1)) * 18 := by rw [hnews]; simp
  have hget : ∀ t, t < (n - (l + 1)) * 18 → news[t]? = some (D ((l + 1) * 18 + t)) := by
    intro t ht
    rw [hnews, List.getElem?_map, List.getElem?_range ht, Option.map_some]
  obtain ⟨j, hj⟩ : ∃ j, j = l + 1 := ⟨_, rfl⟩
  have hjI : (l : Int) + 1 = (j : Int) := by omega
  rw [hjI]
  rw [← hj] at hlen hget
  have hjn : j ≤ n := by omega
  obtain ⟨A, hA, hsrc⟩ : ∃ A : Addr, (if cap = j then some (⟨blk, off, none⟩ : Addr) else some ⟨blk, off + j * 18, none⟩) = some A ∧ Hid (∀ t u, news[t]? = some u → w.drew.cell? (A.add t) = some u) := by
    by_cases h : cap = j
    · refine ⟨⟨blk, off, none⟩, by simp [h], fun t u hu => ?_⟩
      have h0 : news.length = 0 := by rw [hlen, show n - j = 0 by omega, Nat.zero_mul]
      rw [List.length_eq_zero_iff.1 h0] at hu
      simp at hu
    · refine ⟨⟨blk, off + j * 18, none⟩, by simp [h], fun t u hu => ?_⟩
      have ht : t < (n - j) * 18 := by
        have := (List.getElem?_eq_some_iff.1 hu).1
        rwa [hlen] at this
      rw [hget t ht] at hu
      rw [Addr.add_lit, show off + j * 18 + t = off + (j * 18 + t) by omega]
      exact (hcell (j * 18 + t) (by omega)).1.trans hu
  have s1 : Hid (news.length = (n - j) * 18) := hlen
  have s2 : Hid (∀ u ∈ news, u.oneCell' = true) := by
    intro u hu
    rw [hnews] at hu
    obtain ⟨x, hx, rfl⟩ := List.mem_map.1 hu
    have := List.mem_range.1 hx
    exact h1 _ (by omega)
  have s3 : Hid (∀ t, t < news.length → (w.drew.cell? ⟨blk, off + l * 18 + t, none⟩).isSome = true ∧ w.drew.frozen? ⟨blk, off + l * 18 + t, none⟩ = false) := by
    intro t ht
    rw [hlen] at ht
    rw [Nat.add_assoc]
    exact ⟨by show (w.cell? _).isSome = true; rw [(hcell (l * 18 + t) (by omega)).1]; rfl, (hcell (l * 18 + t) (by omega)).2⟩
  obtain ⟨W1, hW1⟩ : ∃ W1, W1 = w.drew.setCells blk (off + l * 18) news := ⟨_, rfl⟩
  have hW : Hid (W1 = w.drew.setCells blk (off + l * 18) news) := hW1
  have hzv : ∀ w, (zeroValue 26).run Try.prog w = .ok z0 w := fun w => by simp [zeroValue, typeInfo, hi0, hz0]
  have hzl : ∀ q, (Builtin.zeroCells z0.cells q).toList.length = q * 18 := fun q => by rw [Array.length_toList, size_zc, hzc]; rfl
  have hz1c : ∀ q, ∀ v ∈ (Builtin.zeroCells z0.cells q).toList, v.oneCell' = true := fun q v hv => by
    rw [hzc] at hv
    simp only [Builtin.zeroCells, Array.toList_map, List.mem_map] at hv
    obtain ⟨i, _, rfl⟩ := hv
    have : ∀ k : Nat, k < 18 → (z26[k]!).oneCell' = true := by decide +kernel
    exact this _ (Nat.mod_lt _ (by decide))
  have hisS : ∀ t, t < n * 18 → (W1.cell? ⟨blk, off + t, none⟩).isSome = true ∧ W1.frozen? ⟨blk, off + t, none⟩ = false := by
    intro t ht
    rw [hW1]
    constructor
    · rcases Nat.lt_or_ge t (l * 18) with h | h
      · rw [World.cell?_setCells_out _ _ _ _ _ (fun _ _ => Or.inl (by show off + t < off + l * 18; omega))]
        show (w.cell? _).isSome = true
        rw [(hcell t ht).1]; rfl
      · rcases Nat.lt_or_ge t (l * 18 + news.length) with h' | h'
        · obtain ⟨q, rfl⟩ : ∃ q, t = l * 18 + q := ⟨t - l * 18, by omega⟩
          have hq : q < news.length := by omega
          rw [← Nat.add_assoc, World.cell?_setCells_in blk news (off + l * 18) w.drew (fun j' hj' => (s3.out j' hj').1) q hq]
          rfl
        · rw [World.cell?_setCells_out _ _ _ _ _ (fun _ _ => Or.inr (by show off + l * 18 + news.length ≤ off + t; omega))]
          show (w.cell? _).isSome = true
          rw [(hcell t ht).1]; rfl
    · rw [World.frozen?_setCells]
      exact (hcell t ht).2
  have e1 : n - (l + (n - j)) = 1 := by omega
  have hcl : ∀ ty, (Builtin.clear_ #[41] ty #[.slice (some ⟨blk, off + (l + (n - j)) * 18, none⟩) (n - (l + (n - j))) (cap - (l + (n - j)))]).run Try.prog W1 = .ok (.tuple #[]) (W1.setCells blk (off + (l + (n - j)) * 18) (Builtin.zeroCells z0.cells 1).toList) := fun ty => by
    rw [e1]
    refine run_clear_cells W1 41 26 ty z0 Try.underlying41 hzv blk _ 1 _ (by omega) (hz1c 1) (fun t ht => ?_) (fun t ht => ?_)
    · rw [hzl] at ht
      rw [Nat.add_assoc]; exact (hisS _ (by omega)).1
    · rw [hzl] at ht
      rw [Nat.add_assoc]; exact (hisS _ (by omega)).2
  have hic : l ≤ cap := by omega
  have hjc : j ≤ cap := by omega
  have hlj2 : l ≤ j := by omega
  have hlj : ((l : Int) == (j : Int)) = false := beq_eq_false_iff_ne.2 (by omega)
  have hfin : n - 1 = l + (n - j) := by omega
  rw [hfin, ← hzc]
  have HF := Lib.hid hfin
  clear hfin
  have hne1 : ¬ (cap = l + (n - j)) := by omega
  obtain ⟨Z, hZ⟩ : ∃ Z, Z = (Builtin.zeroCells z0.cells 1).toList := ⟨_, rfl⟩
  rw [← hZ] at hcl ⊢
  clear hW1 hcell hget hnews hlen e1 hisS hz1c hzl hjI hj hZ hzv hzc hz0

  go_enter Try.func84, Try.ntmps84
  go_wp2_with fail
  go_region_law (refine step_append_room rfl (.tmp 22) (.tmp 25) 41 rfl 26 i0 18 Try.underlying41 hi0 hz1 blk off l cap (by simp [Act.eval, Act.put]) A (n - j) (cap - j) news (by simp [Act.eval, Act.put]) s1.out hsrc.out s2.out (by omega) s3.out ?_; rw [← hW.out])
  go_wp2
  go_ret
  rw [← hW.out]
  exact ⟨rfl, rfl⟩
theorem setCells_app (b : Nat) : ∀ (xs ys : List Value) (o : Nat) (w : World), w.setCells b o (xs ++ ys) = (w.setCells b o xs).setCells b (o + xs.length) ys
  | [], ys, o, w => by simp [World.setCells]
  | x :: xs, ys, o, w => by
    simp only [List.cons_append, World.setCells, List.length_cons]
    rw [setCells_app b xs ys (o + 1)]
    congr 1; omega
/-- A row with one element less. -/
def delV (v : Vc) (a n l : Nat) : Vc := ⟨v.sh, v.n, fun k o => cond (Nat.ble (k + 1) (Nat.add a l)) (v.fd k o) (cond (Nat.ble (k + 2) (Nat.add a n)) (v.fd (k + 1) o) (cond (Nat.ble (k + 1) (Nat.add a n)) 0 (v.fd k o))), v.gd, v.bd, v.wr⟩
def delC : Ctr := ⟨fun args S => match args with
  | [.vec i e a n, x, y] => match intOf x, intOf y, S.vec i with
    | some (.i64, l), some (.i64, m), some v => match v.wr && (Nat.beq e 18 && eqSh wSh v.sh) with
      | true => some ⟨.vec i 18 a (.sym (Nat.sub n.val 1)), [], [(i, delV v a n.val l.toNat)], [], (decide (0 ≤ l) && decide (l < Int.ofNat n.val)) && (decide (m = l + 1) && Nat.ble (Nat.add a n.val) v.n.val), none⟩
      | false => none
    | _, _, _ => none
  | _ => none, none⟩
theorem sat_del84 : Sat Try.prog 84 delC := by
  unfold Sat
  refine ⟨Try.call84, fun args S out hfn hnd M w0 ρ w vs hM hv => ?_⟩
  simp only [delC] at hfn
  split at hfn
  case h_2 => cases hfn
  rename_i i e a n x y
  split at hfn
  case h_2 => cases hfn
  rename_i l m v hx hy hvc
  split at hfn
  case h_2 => cases hfn
  rename_i hb
  cases hfn
  simp only [Bool.and_eq_true] at hb hnd
  obtain ⟨hwr, he, hs⟩ := hb
  obtain ⟨⟨h1, h2⟩, h3, h4⟩ := hnd
  have he := Nat.eq_of_beq_eq_true he
  have hs := (eqSh_eq hs).symm
  subst he
  have h1 := of_decide_eq_true h1
  have h2 := of_decide_eq_true h2
  have h3 := of_decide_eq_true h3
  have h4 := Nat.le_of_ble_eq_true h4
  obtain ⟨L, rfl⟩ := Int.eq_ofNat_of_zero_le h1
  have hLn : L < n.val := by have : (L : Int) < (n.val : Int) := h2; omega
  subst h3
  unfold VL at hv
  obtain ⟨v0, vs1, rfl, k0, hv⟩ := hv
  unfold VL at hv
  obtain ⟨v1, vs2, rfl, k1, hv⟩ := hv
  unfold VL at hv
  obtain ⟨v2, vs3, rfl, k2, hv⟩ := hv
  unfold VL at hv
  subst hv
  have k1 := intOf_sV hx k1
  have k2 := intOf_sV hy k2
  unfold V at k1 k2
  subst k1 k2
  have k0' := k0
  unfold V at k0
  obtain ⟨_, hkn, base, c, rfl, hc⟩ := k0
  rcases hc with ⟨_, h0⟩ | ⟨r, b, hr, rfl, rfl, hcap⟩
  · omega
  obtain ⟨sh, vn, fd, gd, bd, wr⟩ := v
  have hs : sh = wSh := hs
  subst hs
  have hwr : wr = true := hwr
  subst hwr
  have h4 : a + n.val ≤ vn.val := h4
  have e18 : lenL wSh = 18 := by decide
  have hcell : ∀ q p, q < n.val → p < 18 → ∃ u, w.cell? ⟨r, b + a * 18 + (q * 18 + p), none⟩ = some u ∧ V ρ (.flt .f32 (fd (a + q) p)) u := by
    intro q p hq hp
    have hck : nthC p wSh = some .f32 := by
      rcases p with _|_|_|_|_|_|_|_|_|_|_|_|_|_|_|_|_|_|p
      all_goals first | rfl | omega
    obtain ⟨u, g1, g2⟩ := hM.hp.vcell i _ r b (a + q) p .f32 hvc hr (by show a + q < vn.val; omega) hck
    refine ⟨u, ?_, g2⟩
    rw [← g1]
    congr 1
    simp only [Addr.mk.injEq, true_and, and_true, e18]
    omega
  have hfrz : ∀ t, t < n.val * 18 → w.frozen? ⟨r, b + a * 18 + t, none⟩ = false := by
    intro t ht
    obtain ⟨_, g⟩ := hM.hp.vfrz i _ r b (a * 18 + t) hvc rfl hr (by
      show a * 18 + t < ρ.cap i * lenL wSh
      rw [e18]
      have : (a + n.val) * 18 ≤ ρ.cap i * 18 := Nat.mul_le_mul_right _ hcap
      omega)
    rw [← Nat.add_assoc] at g
    exact g
  obtain ⟨D, hD⟩ : ∃ D : Nat → Value, D = fun t => (w.cell? ⟨r, b + a * 18 + t, none⟩).getD undef := ⟨_, rfl⟩
  have hcD : ∀ t, t < n.val * 18 → w.cell? ⟨r, b + a * 18 + t, none⟩ = some (D t) ∧ V ρ (.flt .f32 (fd (a + t / 18) (t % 18))) (D t) := by
    intro t ht
    obtain ⟨u, g1, g2⟩ := hcell (t / 18) (t % 18) (by omega) (Nat.mod_lt _ (by omega))
    rw [show t / 18 * 18 + t % 18 = t by omega] at g1
    rw [hD]
    simp only [g1, Option.getD_some]
    exact ⟨trivial, g2⟩
  have h1c : ∀ t, t < n.val * 18 → (D t).oneCell' = true := by
    intro t ht
    have := (hcD t ht).2
    unfold V at this
    obtain ⟨b', g, _⟩ := this
    rw [g]; rfl
  refine (del84 r (b + a * 18) n.val (ρ.cap i - a) L D w (fun t ht => ⟨(hcD t ht).1, hfrz t ht⟩) h1c hLn (by omega)).mono ?_
  rintro en w' ⟨rfl, rfl⟩
  obtain ⟨news, hnews⟩ : ∃ news, news = ((List.range ((n.val - (L + 1)) * 18)).map fun t => D ((L + 1) * 18 + t)) := ⟨_, rfl⟩
  have hlen : news.length = (n.val - (L + 1)) * 18 := by rw [hnews]; simp
  have hget : ∀ t, t < (n.val - (L + 1)) * 18 → news[t]? = some (D ((L + 1) * 18 + t)) := by
    intro t ht
    rw [hnews, List.getElem?_map, List.getElem?_range ht, Option.map_some]
  obtain ⟨Z, hZ0⟩ : ∃ Z, Z = (Builtin.zeroCells z26 1).toList := ⟨_, rfl⟩
  have hZ : Z = List.replicate 18 (.float .f32 0) := by rw [hZ0]; kernel_rfl
  have hZl : Z.length = 18 := by rw [hZ]; rfl
  have hZg : ∀ p, p < 18 → Z[p]? = some (.float .f32 0) := fun p hp => by rw [hZ, List.getElem?_replicate, if_pos hp]
  have hall : ∀ u ∈ news ++ Z, u.oneCell' = true := fun u hu => by
    rcases List.mem_append.1 hu with h | h
    · rw [hnews] at h
      obtain ⟨x, hx, rfl⟩ := List.mem_map.1 h
      have := List.mem_range.1 hx
      exact h1c _ (by omega)
    · rw [hZ] at h
      rw [List.eq_of_mem_replicate h]; rfl
  have hroom : (a + L) * 18 + (news ++ Z).length = (a + n.val) * 18 := by
    rw [List.length_append, hlen, hZl]; omega
  have hroom2 : (a + n.val) * 18 ≤ ρ.cap i * 18 := Nat.mul_le_mul_right _ hcap
  rw [← hnews, ← hZ0]
  obtain ⟨w2, g1, g2⟩ := (hM.quiet (Fr.drew w)).vset (P := Try.prog) (i := i) (r := r) (b := b) (vc := ⟨wSh, vn, fd, gd, bd, true⟩) (vc' := delV ⟨wSh, vn, fd, gd, bd, true⟩ a n.val L) (off := (a + L) * 18) (vs := news ++ Z) hvc rfl hr rfl rfl rfl
    hall (by show (a + L) * 18 + (news ++ Z).length ≤ ρ.cap i * lenL wSh; rw [hroom, e18]; exact hroom2)
    (fun q p ck hq hck => by
      have hp : p < 18 := by have := nthC_lt hck; rw [e18] at this; exact this
      have hckf : ck = .f32 := by
        have : nthC p wSh = some .f32 := by
          rcases p with _|_|_|_|_|_|_|_|_|_|_|_|_|_|_|_|_|_|p
          all_goals first | rfl | omega
        have hck : nthC p wSh = some ck := hck
        rw [this] at hck; cases hck; rfl
      subst hckf
      rw [show lenL (⟨wSh, vn, fd, gd, bd, true⟩ : Vc).sh = 18 from e18]
      rcases Nat.lt_or_ge q (a + L) with k1 | k1
      · refine Or.inr ⟨fun j hj => by omega, ?_⟩
        show AVal.flt .f32 (cond (Nat.ble (q + 1) (a + L)) (fd q p) _) = .flt .f32 (fd q p)
        rw [Nat.ble_eq_true_of_le k1]; rfl
      · have b1 : Nat.ble (q + 1) (a + L) = false := by
          cases hb : Nat.ble (q + 1) (a + L) with
          | false => rfl
          | true => have := Nat.le_of_ble_eq_true hb; omega
        rcases Nat.lt_or_ge (q + 1) (a + n.val) with k2 | k2
        · refine Or.inl ⟨(q - (a + L)) * 18 + p, D ((L + 1) * 18 + ((q - (a + L)) * 18 + p)), by omega, ?_, ?_⟩
          · rw [List.getElem?_append_left (by rw [hlen]; omega)]
            exact hget _ (by omega)
          · have := (hcD ((L + 1) * 18 + ((q - (a + L)) * 18 + p)) (by omega)).2
            rw [show ((L + 1) * 18 + ((q - (a + L)) * 18 + p)) / 18 = q + 1 - a by omega, show ((L + 1) * 18 + ((q - (a + L)) * 18 + p)) % 18 = p by omega, show a + (q + 1 - a) = q + 1 by omega] at this
            show V ρ (AVal.flt .f32 (cond (Nat.ble (q + 1) (a + L)) (fd q p) (cond (Nat.ble (q + 2) (a + n.val)) (fd (q + 1) p) _))) _
            rw [b1, Nat.ble_eq_true_of_le k2]
            exact this
        · have b2 : Nat.ble (q + 2) (a + n.val) = false := by
            cases hb : Nat.ble (q + 2) (a + n.val) with
            | false => rfl
            | true => have := Nat.le_of_ble_eq_true hb; omega
          rcases Nat.lt_or_ge q (a + n.val) with k3 | k3
          · refine Or.inl ⟨news.length + p, .float .f32 0, by rw [hlen]; omega, ?_, ?_⟩
            · rw [List.getElem?_append_right (by omega), Nat.add_sub_cancel_left]
              exact hZg p hp
            · show V ρ (AVal.flt .f32 (cond (Nat.ble (q + 1) (a + L)) (fd q p) (cond (Nat.ble (q + 2) (a + n.val)) (fd (q + 1) p) (cond (Nat.ble (q + 1) (a + n.val)) 0 (fd q p))))) _
              rw [b1, b2, Nat.ble_eq_true_of_le k3]
              exact (flt_V .f32 (show (0 : Nat) < wordTop .f32 by decide) : V ρ (AVal.flt .f32 0) (.float .f32 0))
          · have b3 : Nat.ble (q + 1) (a + n.val) = false := by
              cases hb : Nat.ble (q + 1) (a + n.val) with
              | false => rfl
              | true => have := Nat.le_of_ble_eq_true hb; omega
            refine Or.inr ⟨fun j hj => by omega, ?_⟩
            show AVal.flt .f32 (cond (Nat.ble (q + 1) (a + L)) (fd q p) (cond (Nat.ble (q + 2) (a + n.val)) (fd (q + 1) p) (cond (Nat.ble (q + 1) (a + n.val)) 0 (fd q p)))) = .flt .f32 (fd q p)
            rw [b1, b2, b3]; rfl)
  have hst := run_storeCells_cells (P := Try.prog) r (b + (a + L) * 18) (news ++ Z) 0 w.drew (fun j hj => by
      show (w.cell? _).isSome = true
      have := (hcD (L * 18 + j) (by omega)).1
      rw [show b + (a + L) * 18 + 0 + j = b + a * 18 + (L * 18 + j) by omega, this]; rfl) (fun j hj => by
      show w.frozen? _ = false
      rw [show b + (a + L) * 18 + 0 + j = b + a * 18 + (L * 18 + j) by omega]
      exact hfrz _ (by omega)) hall
  rw [g1] at hst
  have hw2 : w2 = w.drew.setCells r (b + (a + L) * 18 + 0) (news ++ Z) := by cases hst; rfl
  rw [Nat.add_zero, setCells_app] at hw2
  have hwe : (w.drew.setCells r (b + a * 18 + L * 18) news).setCells r (b + a * 18 + (n.val - 1) * 18) Z = w2 := by
    rw [hw2, show b + (a + L) * 18 = b + a * 18 + L * 18 by omega, show b + a * 18 + L * 18 + news.length = b + a * 18 + (n.val - 1) * 18 by rw [hlen]; omega]
  refine ⟨fun b v h => (by cases h), ρ, ExtS.refl _ _, ?_, ?_⟩
  · unfold V
    exact ⟨trivial, hkn, _, _, rfl, Or.inr ⟨r, b, hr, rfl, rfl, by show a + (n.val - 1) ≤ _; omega⟩⟩
  · rw [hwe]
    exact g2
end Go.Proofs.Ytbblhkjkokbheaa.ab
