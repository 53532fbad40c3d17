import Derived.Test.YtbkjjefjnkkgbaaTkb3b
import Derived.Test.YtbkjjefjnkkgbaaRd
namespace Go.Rd
open Go Go.RowKit
theorem act34 {a : Act} {d : List Deferred} (hs : a.tmps.size = 34) (hd : a.defers = d) : ∃ x0 x1 x2 x3 x4 x5 x6 x7 x8 x9 x10 x11 x12 x13 x14 x15 x16 x17 x18 x19 x20 x21 x22 x23 x24 x25 x26 x27 x28 x29 x30 x31 x32 x33 : Value, a = { tmps := #[x0, x1, x2, x3, x4, x5, x6, x7, x8, x9, x10, x11, x12, x13, x14, x15, x16, x17, x18, x19, x20, x21, x22, x23, x24, x25, x26, x27, x28, x29, x30, x31, x32, x33], defers := d } := by
  obtain ⟨⟨l⟩, ds⟩ := a
  have hd : ds = d := hd
  subst hd
  match l, hs with
  | x0 :: x1 :: x2 :: x3 :: x4 :: x5 :: x6 :: x7 :: x8 :: x9 :: x10 :: x11 :: x12 :: x13 :: x14 :: x15 :: x16 :: x17 :: x18 :: x19 :: x20 :: x21 :: x22 :: x23 :: x24 :: x25 :: x26 :: x27 :: x28 :: x29 :: x30 :: x31 :: x32 :: x33 :: [], _ => exact ⟨x0, x1, x2, x3, x4, x5, x6, x7, x8, x9, x10, x11, x12, x13, x14, x15, x16, x17, x18, x19, x20, x21, x22, x23, x24, x25, x26, x27, x28, x29, x30, x31, x32, x33, rfl⟩
end Go.Rd
namespace Go.Proofs.Ytbkjjefjnkkgbaa.sea
open Go Go.Ab Go.Proofs Go.RowKit Go.Shelf
attribute [local go_sem] Oper.semAt_some
set_option linter.unusedVariables false
section
variable {s : Sea} {w : World} {T : Tab} {gp : Nat → Int}
def A39 (s : Sea) (T : Tab) (s1 s2 pv : Value) (ta : Option Addr) (tc B : Nat) (C : Int) (t0 : TypeId) (u0 : Value) : Array Value := #[.agg #[s1, s2, .int .i64 (s.g 0), .int .i64 (s.g 1), .int .i64 (s.g 2), .int .i64 (s.g 3), .int .i64 (s.g 4)], pv, .slice ta T.n tc, .pointer (some ⟨B, 0, none⟩), undef, undef, .bool false, .int .i64 0, .int .i64 C, .int .i64 0, .tuple #[.int .i64 C, .int .i64 0], .agg #[s1, s2, .int .i64 (s.g 0), .int .i64 (s.g 1), .int .i64 (s.g 2), .int .i64 (s.g 3), .int .i64 (s.g 4)], pv, .tuple #[.int .i64 C, .int .i64 0], .int .i64 C, .int .i64 0, .int .i64 0, .bool false, undef, .agg #[s1, s2, .int .i64 (s.g 0), .int .i64 (s.g 1), .int .i64 (s.g 2), .int .i64 (s.g 3), .int .i64 (s.g 4)], .slice ta T.n tc, .iface t0 u0, .bool false, .bool false, undef, undef, undef, undef, undef, undef, undef, undef, undef, .bool false]
set_option maxRecDepth 100000 in
set_option maxHeartbeats 4000000 in
theorem ic39_false {ev : Sea → Tab → Value} (H : Chk ev) {v pv tv : Value} {p : Nat} (hc : soC s p gp = 0) (hk : okT s T = false) (hS : SeaV s w v) (hp : SlV gp w.heap.size w pv p) (hle : p ≤ 9223372036854775807) (hT : TabV T w tv) (hx : TabMx T) :
    Calls Try.prog 39 #[v, pv, tv] w fun e w' => e = .returned (.tuple #[.bool false, .int .i64 0]) ∧ Below w.heap.size w w' := by
  obtain ⟨t0, u0, hev⟩ := (H.1 s T).2 hk
  have hS' := hS
  obtain ⟨s1, s2, rfl, _⟩ := hS'
  obtain ⟨W0, hW0⟩ : ∃ W0, W0 = w.alloc (.cells #[s1, s2, .int .i64 (s.g 0), .int .i64 (s.g 1), .int .i64 (s.g 2), .int .i64 (s.g 3), .int .i64 (s.g 4)] 27) := ⟨_, rfl⟩
  have hB0 : Below w.heap.size w W0 := by rw [hW0]; exact (Below.refl _ w).alloc (Nat.le_refl _) _
  have hS0 := hS.below hB0
  have hp0 := hp.at hB0
  have hT0 := TabV.below hB0 hT
  have hz0 : w.heap.size < W0.heap.size := by rw [hW0]; simp
  have q (k : Nat) (u : Value) (h : #[s1, s2, Value.int .i64 (s.g 0), .int .i64 (s.g 1), .int .i64 (s.g 2), .int .i64 (s.g 3), .int .i64 (s.g 4)][k]? = some u) : W0.cell? ⟨w.heap.size, k, none⟩ = some u := by rw [hW0]; exact wcells (s := s) w 27 k u h
  obtain ⟨ta, tc, rfl⟩ := hT.slice
  have hck : okSea s = true := by
    unfold soC at hc
    cases ho : okSea s with
    | true => rfl
    | false => rw [ho] at hc; simp at hc
  have o := okSea_ok hck
  obtain ⟨C, hC⟩ : ∃ C, Hid (C = coV s p gp) := ⟨_, rfl⟩
  have hmx : Try.prog.follows .mixedOrders = true := by kernel_rfl
  refine callsIn_wide.1 (callsIn_of_wp (n := 3) Try.func39 rfl trivial ?_ rfl)
  simp only [Try.ntmps39, List.size_toArray, List.length_cons, List.length_nil, Nat.reduceAdd, Nat.reduceSub, Array.replicate_succ, Array.replicate_zero, List.push_toArray, List.append_toArray, List.nil_append, List.cons_append]
  gi_wp2_with (refine ⟨trivial, ?_⟩; gi_at_call 29; rw [← hW0]; refine (callsIn_wide.2 (co28 hS0 hp0 hle)).mono ?_; rintro e w1 ⟨rfl, hb1⟩; rw [hc, ← hC.out])
  have hS1 : SeaV s w1 _ := hS0.below hb1
  have hT1 : TabV T w1 _ := TabV.below hb1 hT0
  have c0 := (hb1.cell (p := ⟨w.heap.size, 0, none⟩) hz0).trans (q 0 _ rfl)
  have c1 := (hb1.cell (p := ⟨w.heap.size, 1, none⟩) hz0).trans (q 1 _ rfl)
  have c2 := (hb1.cell (p := ⟨w.heap.size, 2, none⟩) hz0).trans (q 2 _ rfl)
  have c3 := (hb1.cell (p := ⟨w.heap.size, 3, none⟩) hz0).trans (q 3 _ rfl)
  have c4 := (hb1.cell (p := ⟨w.heap.size, 4, none⟩) hz0).trans (q 4 _ rfl)
  have c5 := (hb1.cell (p := ⟨w.heap.size, 5, none⟩) hz0).trans (q 5 _ rfl)
  have c6 := (hb1.cell (p := ⟨w.heap.size, 6, none⟩) hz0).trans (q 6 _ rfl)
  have hz1 : w.heap.size < w1.heap.size := Nat.lt_of_lt_of_le hz0 hb1.size
  have hD : Below w1.heap.size w1 w1.drew := (Below.refl _ w1).drew
  refine Rd.region hmx (N := 34) (X := fun t => (A39 s T s1 s2 pv ta tc w.heap.size C t0 u0).getD t undef) (by kernel_rfl) rfl ?_ (Rd.cons ?_ (Rd.cons ?_ (Rd.cons ?_ (Rd.cons ?_ (Rd.cons ?_ (Rd.cons ?_ (Rd.cons ?_ (Rd.cons ?_ (Rd.cons ?_ (Rd.cons ?_ (Rd.cons ?_ (Rd.cons ?_ (Rd.cons ?_ (Rd.cons ?_ (Rd.cons ?_ (Rd.cons ?_ (Rd.cons ?_ Rd.nil))))))))))))))))) ?_
  · intro t ht hw
    match t, ht, hw with
    | 0, _, _ => exact rfl
    | 1, _, _ => exact rfl
    | 2, _, _ => exact rfl
    | 3, _, _ => exact rfl
    | 4, _, _ => exact rfl
    | 5, _, _ => exact rfl
    | 6, _, hw => exact absurd hw (by decide)
    | 7, _, hw => exact absurd hw (by decide)
    | 8, _, _ => exact rfl
    | 9, _, _ => exact rfl
    | 10, _, _ => exact rfl
    | 11, _, _ => exact rfl
    | 12, _, _ => exact rfl
    | 13, _, _ => exact rfl
    | 14, _, _ => exact rfl
    | 15, _, _ => exact rfl
    | 16, _, _ => exact rfl
    | 17, _, _ => exact rfl
    | 18, _, _ => exact rfl
    | 19, _, hw => exact absurd hw (by decide)
    | 20, _, hw => exact absurd hw (by decide)
    | 21, _, hw => exact absurd hw (by decide)
    | 22, _, hw => exact absurd hw (by decide)
    | 23, _, hw => exact absurd hw (by decide)
    | 24, _, hw => exact absurd hw (by decide)
    | 25, _, hw => exact absurd hw (by decide)
    | 26, _, hw => exact absurd hw (by decide)
    | 27, _, hw => exact absurd hw (by decide)
    | 28, _, hw => exact absurd hw (by decide)
    | 29, _, hw => exact absurd hw (by decide)
    | 30, _, hw => exact absurd hw (by decide)
    | 31, _, hw => exact absurd hw (by decide)
    | 32, _, hw => exact absurd hw (by decide)
    | 33, _, hw => exact absurd hw (by decide)
    | n + 34, h, _ => exact absurd h (by omega)
  · intro a w2 K hsz hdf hkn hb hK
    obtain ⟨x0, x1, x2, x3, x4, x5, x6, x7, x8, x9, x10, x11, x12, x13, x14, x15, x16, x17, x18, x19, x20, x21, x22, x23, x24, x25, x26, x27, x28, x29, x30, x31, x32, x33, rfl⟩ := Rd.act34 hsz hdf
    have k3 := hkn 3 (by decide) (by kernel_rfl)
    obtain rfl : x3 = .pointer (some ⟨w.heap.size, 0, none⟩) := k3
    have q0 := (hb.cell (p := ⟨w.heap.size, 0, none⟩) hz1).trans c0
    have q1 := (hb.cell (p := ⟨w.heap.size, 1, none⟩) hz1).trans c1
    have q2 := (hb.cell (p := ⟨w.heap.size, 2, none⟩) hz1).trans c2
    have q3 := (hb.cell (p := ⟨w.heap.size, 3, none⟩) hz1).trans c3
    have q4 := (hb.cell (p := ⟨w.heap.size, 4, none⟩) hz1).trans c4
    have q5 := (hb.cell (p := ⟨w.heap.size, 5, none⟩) hz1).trans c5
    have q6 := (hb.cell (p := ⟨w.heap.size, 6, none⟩) hz1).trans c6
    refine wpOpIn_step rfl (fun K' hK' => ?_)
    go_simp
    refine hK' _ _ ?_
    exact hK _ hb
  · intro a w2 K hsz hdf hkn hb hK
    obtain ⟨x0, x1, x2, x3, x4, x5, x6, x7, x8, x9, x10, x11, x12, x13, x14, x15, x16, x17, x18, x19, x20, x21, x22, x23, x24, x25, x26, x27, x28, x29, x30, x31, x32, x33, rfl⟩ := Rd.act34 hsz hdf
    have k2 := hkn 2 (by decide) (by kernel_rfl)
    obtain rfl : x2 = .slice ta T.n tc := k2
    refine wpOpIn_step rfl (fun K' hK' => ?_)
    go_simp
    refine hK' _ _ ?_
    exact hK _ hb
  · intro a w2 K hsz hdf hkn hb hK
    obtain ⟨x0, x1, x2, x3, x4, x5, x6, x7, x8, x9, x10, x11, x12, x13, x14, x15, x16, x17, x18, x19, x20, x21, x22, x23, x24, x25, x26, x27, x28, x29, x30, x31, x32, x33, rfl⟩ := Rd.act34 hsz hdf
    have k19 := hkn 19 (by decide) (by kernel_rfl)
    obtain rfl : x19 = .agg #[s1, s2, .int .i64 (s.g 0), .int .i64 (s.g 1), .int .i64 (s.g 2), .int .i64 (s.g 3), .int .i64 (s.g 4)] := k19
    have k20 := hkn 20 (by decide) (by kernel_rfl)
    obtain rfl : x20 = .slice ta T.n tc := k20
    refine wpOpIn_step rfl (fun K' hK' => ?_)
    go_simp
    gi_wp2_with (refine ⟨trivial, ?_⟩; gi_at_call 65; refine (callsIn_wide.2 (H.2 o ((hS1.below hD).below hb) (TabV.below hb (TabV.below hD hT1)) hx)).mono ?_; rintro e w' ⟨rfl, hb'⟩; rw [hev])
    exact hb.trans (hb'.mono hb.size)
  · intro a w2 K hsz hdf hkn hb hK
    obtain ⟨x0, x1, x2, x3, x4, x5, x6, x7, x8, x9, x10, x11, x12, x13, x14, x15, x16, x17, x18, x19, x20, x21, x22, x23, x24, x25, x26, x27, x28, x29, x30, x31, x32, x33, rfl⟩ := Rd.act34 hsz hdf
    have k21 := hkn 21 (by decide) (by kernel_rfl)
    obtain rfl : x21 = .iface t0 u0 := k21
    refine wpOpIn_step rfl (fun K' hK' => ?_)
    go_simp
    refine hK' _ _ ?_
    exact hK _ hb
  · intro a w2 K hsz hdf hkn hb hK
    obtain ⟨x0, x1, x2, x3, x4, x5, x6, x7, x8, x9, x10, x11, x12, x13, x14, x15, x16, x17, x18, x19, x20, x21, x22, x23, x24, x25, x26, x27, x28, x29, x30, x31, x32, x33, rfl⟩ := Rd.act34 hsz hdf
    have k22 := hkn 22 (by decide) (by kernel_rfl)
    obtain rfl : x22 = .bool false := k22
    refine wpOpIn_step rfl (fun K' hK' => ?_)
    go_simp
    refine hK' _ _ ?_
    exact hK _ hb
  · intro a w2 K hsz hdf hkn hb hK
    obtain ⟨x0, x1, x2, x3, x4, x5, x6, x7, x8, x9, x10, x11, x12, x13, x14, x15, x16, x17, x18, x19, x20, x21, x22, x23, x24, x25, x26, x27, x28, x29, x30, x31, x32, x33, rfl⟩ := Rd.act34 hsz hdf
    have k23 := hkn 23 (by decide) (by kernel_rfl)
    obtain rfl : x23 = .bool false := k23
    refine wpOpIn_step rfl (fun K' hK' => ?_)
    go_simp
    refine hK' _ _ ?_
    exact hK _ hb
  · intro a w2 K hsz hdf hkn hb hK
    obtain ⟨x0, x1, x2, x3, x4, x5, x6, x7, x8, x9, x10, x11, x12, x13, x14, x15, x16, x17, x18, x19, x20, x21, x22, x23, x24, x25, x26, x27, x28, x29, x30, x31, x32, x33, rfl⟩ := Rd.act34 hsz hdf
    have k23 := hkn 23 (by decide) (by kernel_rfl)
    obtain rfl : x23 = .bool false := k23
    refine wpOpIn_step rfl (fun K' hK' => ?_)
    go_simp
    refine hK' _ _ ?_
    exact hK _ hb
  · intro a w2 K hsz hdf hkn hb hK
    obtain ⟨x0, x1, x2, x3, x4, x5, x6, x7, x8, x9, x10, x11, x12, x13, x14, x15, x16, x17, x18, x19, x20, x21, x22, x23, x24, x25, x26, x27, x28, x29, x30, x31, x32, x33, rfl⟩ := Rd.act34 hsz hdf
    have k23 := hkn 23 (by decide) (by kernel_rfl)
    obtain rfl : x23 = .bool false := k23
    refine wpOpIn_step rfl (fun K' hK' => ?_)
    go_simp
    refine hK' _ _ ?_
    exact hK _ hb
  · intro a w2 K hsz hdf hkn hb hK
    obtain ⟨x0, x1, x2, x3, x4, x5, x6, x7, x8, x9, x10, x11, x12, x13, x14, x15, x16, x17, x18, x19, x20, x21, x22, x23, x24, x25, x26, x27, x28, x29, x30, x31, x32, x33, rfl⟩ := Rd.act34 hsz hdf
    have k23 := hkn 23 (by decide) (by kernel_rfl)
    obtain rfl : x23 = .bool false := k23
    refine wpOpIn_step rfl (fun K' hK' => ?_)
    go_simp
    refine hK' _ _ ?_
    exact hK _ hb
  · intro a w2 K hsz hdf hkn hb hK
    obtain ⟨x0, x1, x2, x3, x4, x5, x6, x7, x8, x9, x10, x11, x12, x13, x14, x15, x16, x17, x18, x19, x20, x21, x22, x23, x24, x25, x26, x27, x28, x29, x30, x31, x32, x33, rfl⟩ := Rd.act34 hsz hdf
    have k23 := hkn 23 (by decide) (by kernel_rfl)
    obtain rfl : x23 = .bool false := k23
    refine wpOpIn_step rfl (fun K' hK' => ?_)
    go_simp
    refine hK' _ _ ?_
    exact hK _ hb
  · intro a w2 K hsz hdf hkn hb hK
    obtain ⟨x0, x1, x2, x3, x4, x5, x6, x7, x8, x9, x10, x11, x12, x13, x14, x15, x16, x17, x18, x19, x20, x21, x22, x23, x24, x25, x26, x27, x28, x29, x30, x31, x32, x33, rfl⟩ := Rd.act34 hsz hdf
    have k23 := hkn 23 (by decide) (by kernel_rfl)
    obtain rfl : x23 = .bool false := k23
    refine wpOpIn_step rfl (fun K' hK' => ?_)
    go_simp
    refine hK' _ _ ?_
    exact hK _ hb
  · intro a w2 K hsz hdf hkn hb hK
    obtain ⟨x0, x1, x2, x3, x4, x5, x6, x7, x8, x9, x10, x11, x12, x13, x14, x15, x16, x17, x18, x19, x20, x21, x22, x23, x24, x25, x26, x27, x28, x29, x30, x31, x32, x33, rfl⟩ := Rd.act34 hsz hdf
    have k23 := hkn 23 (by decide) (by kernel_rfl)
    obtain rfl : x23 = .bool false := k23
    refine wpOpIn_step rfl (fun K' hK' => ?_)
    go_simp
    refine hK' _ _ ?_
    exact hK _ hb
  · intro a w2 K hsz hdf hkn hb hK
    obtain ⟨x0, x1, x2, x3, x4, x5, x6, x7, x8, x9, x10, x11, x12, x13, x14, x15, x16, x17, x18, x19, x20, x21, x22, x23, x24, x25, x26, x27, x28, x29, x30, x31, x32, x33, rfl⟩ := Rd.act34 hsz hdf
    have k23 := hkn 23 (by decide) (by kernel_rfl)
    obtain rfl : x23 = .bool false := k23
    refine wpOpIn_step rfl (fun K' hK' => ?_)
    go_simp
    refine hK' _ _ ?_
    exact hK _ hb
  · intro a w2 K hsz hdf hkn hb hK
    obtain ⟨x0, x1, x2, x3, x4, x5, x6, x7, x8, x9, x10, x11, x12, x13, x14, x15, x16, x17, x18, x19, x20, x21, x22, x23, x24, x25, x26, x27, x28, x29, x30, x31, x32, x33, rfl⟩ := Rd.act34 hsz hdf
    have k23 := hkn 23 (by decide) (by kernel_rfl)
    obtain rfl : x23 = .bool false := k23
    refine wpOpIn_step rfl (fun K' hK' => ?_)
    go_simp
    refine hK' _ _ ?_
    exact hK _ hb
  · intro a w2 K hsz hdf hkn hb hK
    obtain ⟨x0, x1, x2, x3, x4, x5, x6, x7, x8, x9, x10, x11, x12, x13, x14, x15, x16, x17, x18, x19, x20, x21, x22, x23, x24, x25, x26, x27, x28, x29, x30, x31, x32, x33, rfl⟩ := Rd.act34 hsz hdf
    have k23 := hkn 23 (by decide) (by kernel_rfl)
    obtain rfl : x23 = .bool false := k23
    refine wpOpIn_step rfl (fun K' hK' => ?_)
    go_simp
    refine hK' _ _ ?_
    exact hK _ hb
  · intro a w2 K hsz hdf hkn hb hK
    obtain ⟨x0, x1, x2, x3, x4, x5, x6, x7, x8, x9, x10, x11, x12, x13, x14, x15, x16, x17, x18, x19, x20, x21, x22, x23, x24, x25, x26, x27, x28, x29, x30, x31, x32, x33, rfl⟩ := Rd.act34 hsz hdf
    have k33 := hkn 33 (by decide) (by kernel_rfl)
    obtain rfl : x33 = .bool false := k33
    refine wpOpIn_step rfl (fun K' hK' => ?_)
    go_simp
    refine hK' _ _ ?_
    exact hK _ hb
  · intro a w2 K hsz hdf hkn hb hK
    obtain ⟨x0, x1, x2, x3, x4, x5, x6, x7, x8, x9, x10, x11, x12, x13, x14, x15, x16, x17, x18, x19, x20, x21, x22, x23, x24, x25, x26, x27, x28, x29, x30, x31, x32, x33, rfl⟩ := Rd.act34 hsz hdf
    refine wpOpIn_step rfl (fun K' hK' => ?_)
    go_simp
    refine hK' _ _ ?_
    exact hK _ hb
  · intro a' w2 hsz' hdf' hX' hb
    obtain rfl := Rd.act_of (L := A39 s T s1 s2 pv ta tc w.heap.size C t0 u0) rfl hsz' hdf' hX'
    unfold A39
    gi_wp2
    go_ret2
    exact ⟨rfl, hB0.trans ((hb1.mono hB0.size).trans ((hD.trans hb).mono (Nat.le_of_lt hz1)))⟩
end
end Go.Proofs.Ytbkjjefjnkkgbaa.sea
