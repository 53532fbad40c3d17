import Derived.Test.YtbkjjefjnkkgbaaSq5
namespace Go.Proofs.Ytbkjjefjnkkgbaa.sea
open Go Go.Ab Go.Proofs Go.RowKit
set_option linter.unusedVariables false
/-- Five numbers. -/
def seaG (a b c d e : Int) : Nat → Int := fun o => match o with | 0 => a | 1 => b | 2 => c | 3 => d | _ => e
/-! Sizes. -/
def sz1 (l : Int) (n : Nat) : Int := cond (decide (IntKind.i64.wrap (l - Int.ofNat n) < 0)) (-1) (IntKind.i64.wrap (l - Int.ofNat n))
def szS (l : Int) (n m : Nat) : Int := cond (decide (sz1 l n < 0)) (-1) (cond (decide (sz1 (sz1 l n) m < 0)) (-1) (sz1 (sz1 l n) m))
theorem sz1_le {l : Int} {n : Nat} (h0 : 0 ≤ l) (hl : l ≤ 1048576) (hn : n ≤ 9223372036854775807) (h : ¬ sz1 l n < 0) : sz1 l n = l - n ∧ (n : Int) ≤ l := by
  have hw : IntKind.i64.wrap (l - Int.ofNat n) = l - n := wrap_in (by show _ ≤ l - (n : Int) ∧ l - (n : Int) ≤ _; omega)
  unfold sz1 at h ⊢
  rw [hw] at h ⊢
  by_cases k : l - (n : Int) < 0
  · rw [decide_eq_true k] at h
    exact absurd (by decide : (-1 : Int) < 0) h
  · rw [decide_eq_false k]
    exact ⟨rfl, by omega⟩
theorem szS_le {l : Int} {n m : Nat} (h0 : 0 ≤ l) (hl : l ≤ 1048576) (hn : n ≤ 9223372036854775807) (hm : m ≤ 9223372036854775807) (h : ¬ szS l n m < 0) : szS l n m = l - n - m ∧ (n : Int) + m ≤ l := by
  unfold szS at h ⊢
  by_cases k : sz1 l n < 0
  · rw [decide_eq_true k] at h
    exact absurd (by decide : (-1 : Int) < 0) h
  · rw [decide_eq_false k] at h ⊢
    obtain ⟨e1, h1⟩ := sz1_le h0 hl hn k
    simp only [cond_false] at h ⊢
    by_cases k2 : sz1 (sz1 l n) m < 0
    · rw [decide_eq_true k2] at h
      exact absurd (by decide : (-1 : Int) < 0) h
    · rw [decide_eq_false k2] at h ⊢
      obtain ⟨e2, h2⟩ := sz1_le (l := sz1 l n) (by omega) (by omega) hm k2
      simp only [cond_false]
      exact ⟨by omega, by omega⟩
/-- A season, of its cells. -/
def seaOf (S : St) : List AVal → Option (Sea × Bool)
  | [x, y, c0, c1, c2, c3, c4] => match intsOf S x, intsOf S y, i64Of c0, i64Of c1, i64Of c2, i64Of c3, i64Of c4 with
    | some (n, gn, b), some (m, gm, b'), some g0, some g1, some g2, some g3, some g4 => some (⟨n, m, gn, gm, seaG g0 g1 g2 g3 g4⟩, b && b')
    | _, _, _, _, _, _, _ => none
  | _ => none
theorem seaOf_V {ρ : Rho} {S : St} {w : World} (hM : Hp ρ S w) {cs : List AVal} {s : Sea} {b : Bool} {us : List Value} (h : seaOf S cs = some (s, b)) (hb : b = true) (hv : VL ρ cs us) : SeaV s w (.agg ⟨us⟩) := by
  unfold seaOf at h
  split at h
  · rename_i x y c0 c1 c2 c3 c4
    split at h
    · rename_i n gn b1 m gm b2 g0 g1 g2 g3 g4 hx hy h0 h1 h2 h3 h4
      cases h
      rw [Bool.and_eq_true] at hb
      unfold VL at hv
      obtain ⟨v0, r0, rfl, k0, hv⟩ := hv
      unfold VL at hv
      obtain ⟨v1, r1, rfl, k1, hv⟩ := hv
      unfold VL at hv
      obtain ⟨v2, r2, rfl, k2, hv⟩ := hv
      unfold VL at hv
      obtain ⟨v3, r3, rfl, k3, hv⟩ := hv
      unfold VL at hv
      obtain ⟨v4, r4, rfl, k4, hv⟩ := hv
      unfold VL at hv
      obtain ⟨v5, r5, rfl, k5, hv⟩ := hv
      unfold VL at hv
      obtain ⟨v6, r6, rfl, k6, hv⟩ := hv
      unfold VL at hv
      subst hv
      obtain ⟨hS0, hn⟩ := intsOf_V hM hx hb.1 k0
      obtain ⟨hS1, hm⟩ := intsOf_V hM hy hb.2 k1
      obtain rfl := i64Of_V h0 k2
      obtain rfl := i64Of_V h1 k3
      obtain rfl := i64Of_V h2 k4
      obtain rfl := i64Of_V h3 k5
      obtain rfl := i64Of_V h4 k6
      exact ⟨v0, v1, rfl, hS0, hS1, hn, hm⟩
    · cases h
  · cases h
theorem okO_ex : ∃ f, f = okSea := ⟨_, rfl⟩
noncomputable def okO : Sea → Bool := Classical.choose okO_ex
theorem okO_eq : okO = okSea := Classical.choose_spec okO_ex
theorem saVO_ex : ∃ f, f = saV := ⟨_, rfl⟩
noncomputable def saVO : Sea → Int → Int → Int → Int := Classical.choose saVO_ex
theorem saVO_eq : saVO = saV := Classical.choose_spec saVO_ex
theorem saCO_ex : ∃ f, f = saC := ⟨_, rfl⟩
noncomputable def saCO : Sea → Int → Int → Int → Int := Classical.choose saCO_ex
theorem saCO_eq : saCO = saC := Classical.choose_spec saCO_ex
/-- ValidSeason. -/
noncomputable def okK : Ctr := ⟨fun args S => match args with
  | [.agg cs] => match seaOf S cs with
    | some (s, b) => some ⟨.sbool (okO s), [], [], [], b, none⟩
    | none => none
  | _ => none, none⟩
theorem sat_ok {f : FuncId} (hcall : ∀ (args : Array Value) (w : World), (callFunc f args).run Try.prog w = .ok (.enter f args) w)
    (h : ∀ {s : Sea} {w : World} {v : Value}, SeaV s w v → Calls Try.prog f #[v] w fun e w' => e = .returned (.bool (okSea s)) ∧ Below w.heap.size w w') : Sat Try.prog f okK := sat_by hcall rfl (fun args S out hfn hnd => by
  simp only [okK] at hfn
  split at hfn
  · rename_i cs
    split at hfn
    · rename_i s b hs
      cases hfn
      refine ⟨rfl, fun ρ w vs hM hv => ?_⟩
      unfold VL at hv
      obtain ⟨v, r, rfl, k0, hv⟩ := hv
      unfold VL at hv
      subst hv
      unfold V at k0
      obtain ⟨us, rfl, k0⟩ := k0
      refine (h (seaOf_V hM hs hnd k0)).mono ?_
      rintro e w' ⟨rfl, hb⟩
      exact ⟨_, rfl, by rw [okO_eq]; unfold V; rfl, hb⟩
    · cases hfn
  · cases hfn)
theorem sat12 : Sat Try.prog 13 okK := sat_ok Try.call13 ok12
theorem sat14 : Sat Try.prog 15 okK := sat_ok Try.call15 ok14
/-- StoreAfter. -/
noncomputable def saK : Ctr := ⟨fun args S => match args with
  | [.agg cs, x, y, z] => match seaOf S cs, i64Of x, i64Of y, i64Of z with
    | some (s, b), some k, some st, some lg => some ⟨.tuple [.sint .i64 (saVO s k st lg), .sint .i64 (saCO s k st lg)], [], [], [], b, none⟩
    | _, _, _, _ => none
  | _ => none, none⟩
theorem sat_sa {f : FuncId} (hcall : ∀ (args : Array Value) (w : World), (callFunc f args).run Try.prog w = .ok (.enter f args) w)
    (h : ∀ {s : Sea} {w : World} {v : Value}, SeaV s w v → ∀ k st lg, Calls Try.prog f #[v, .int .i64 k, .int .i64 st, .int .i64 lg] w fun e w' => e = .returned (.tuple #[.int .i64 (saV s k st lg), .int .i64 (saC s k st lg)]) ∧ Below w.heap.size w w') : Sat Try.prog f saK := sat_by hcall rfl (fun args S out hfn hnd => by
  simp only [saK] at hfn
  split at hfn
  · rename_i cs x y z
    split at hfn
    · rename_i s b k st lg hs hx hy hz
      cases hfn
      refine ⟨rfl, fun ρ w vs hM hv => ?_⟩
      unfold VL at hv
      obtain ⟨v, r, rfl, k0, hv⟩ := hv
      unfold VL at hv
      obtain ⟨v1, r1, rfl, k1, hv⟩ := hv
      unfold VL at hv
      obtain ⟨v2, r2, rfl, k2, hv⟩ := hv
      unfold VL at hv
      obtain ⟨v3, r3, rfl, k3, hv⟩ := hv
      unfold VL at hv
      subst hv
      unfold V at k0
      obtain ⟨us, rfl, k0⟩ := k0
      obtain rfl := i64Of_V hx k1
      obtain rfl := i64Of_V hy k2
      obtain rfl := i64Of_V hz k3
      refine (h (seaOf_V hM hs hnd k0) k st lg).mono ?_
      rintro e w' ⟨rfl, hb⟩
      refine ⟨_, rfl, ?_, hb⟩
      rw [saVO_eq, saCO_eq]
      unfold V
      exact ⟨_, rfl, VL_cons (sint_V .i64 _) (VL_cons (sint_V .i64 _) VL_nil)⟩
    · cases hfn
  · cases hfn)
theorem sat18 : Sat Try.prog 19 saK := sat_sa Try.call19 sa18
theorem sat19 : Sat Try.prog 20 saK := sat_sa Try.call20 sa19
end Go.Proofs.Ytbkjjefjnkkgbaa.sea
