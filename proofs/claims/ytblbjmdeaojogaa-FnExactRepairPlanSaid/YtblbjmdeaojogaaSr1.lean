import Derived.Test.YtblbjmdeaojogaaSx4
import Derived.Test.YtblbjmdeaojogaaRd16
namespace Go.Proofs.Ytblbjmdeaojogaa.sea
open Go Go.Ab Go.Proofs Go.RowKit Go.Shelf
attribute [local go_sem] Oper.semAt_some
set_option linter.unusedVariables false
/-- The repaired plan's logs: the plan's, or the fewest, if these are more. -/
def rpw (s : Sea) (gp : Nat → Int) (k : Nat) (x : Int) : Int := if gp k < fw s k x then fw s k x else gp k
section
variable {s : Sea} {w : World} {gp : Nat → Int}
def A54 (s : Sea) (gp : Nat → Int) (k : Nat) (x : Int) (s1 s2 : Value) (Bp Bq bp off cap : Nat) : Array Value := #[.int .i64 (k : Int), .int .i64 x, .pointer (some ⟨Bp, 0, none⟩), .pointer (some ⟨Bq, 0, none⟩), undef, undef, .int .i64 (rpw s gp k x), .slice (some ⟨bp, off, none⟩) s.n cap, .int .i64 (k : Int), .pointer (some ⟨bp, off + k, none⟩), .int .i64 (gp k), .agg #[s1, s2, .int .i64 (s.g 0), .int .i64 (s.g 1), .int .i64 (s.g 2), .int .i64 (s.g 3), .int .i64 (s.g 4)], .int .i64 (k : Int), .int .i64 x, .int .i64 (fw s k x), .int .i64 (rpw s gp k x)]
set_option maxRecDepth 100000 in
set_option maxHeartbeats 4000000 in
theorem rep54 (ok : s.Ok) (s1 s2 : Value) (hS : SeaV s w (seaVal s1 s2 s)) (Bp Bq bp off cap : Nat) (hc : w.cell? ⟨Bp, 0, none⟩ = some (.slice (some ⟨bp, off, none⟩) s.n cap)) (hE : bp < w.heap.size ∧ ∀ k, k < s.n → w.cell? ⟨bp, off + k, none⟩ = some (.int .i64 (gp k)))
    (hBp : Bp < w.heap.size) (hBq : Bq < w.heap.size) (hq : ∀ (q : Nat) (u : Value), #[s1, s2, Value.int .i64 (s.g 0), .int .i64 (s.g 1), .int .i64 (s.g 2), .int .i64 (s.g 3), .int .i64 (s.g 4)][q]? = some u → w.cell? ⟨Bq, q, none⟩ = some u) {k : Nat} (hk : k < s.n) {x : Int} (hx : 0 ≤ x ∧ x ≤ s.g 2) :
    Calls Try.prog 54 #[.int .i64 (k : Int), .int .i64 x, .pointer (some ⟨Bp, 0, none⟩), .pointer (some ⟨Bq, 0, none⟩)] w fun e w' => e = .returned (.int .i64 (rpw s gp k x)) ∧ Below w.heap.size w w' := by
  have n2 := ok.n2
  have ek := hE.2 k hk
  have q0 := hq 0 _ rfl
  have q1 := hq 1 _ rfl
  have q2 := hq 2 _ rfl
  have q3 := hq 3 _ rfl
  have q4 := hq 4 _ rfl
  have q5 := hq 5 _ rfl
  have q6 := hq 6 _ rfl
  have hmx : Try.prog.follows .mixedOrders = true := by kernel_rfl
  refine callsIn_wide.1 (callsIn_of_wp (n := 3) Try.func54 rfl trivial ?_ rfl)
  simp only [Try.ntmps54, List.size_toArray, List.length_cons, List.length_nil, Nat.reduceAdd, Nat.reduceSub, Array.replicate_succ, Array.replicate_zero, List.push_toArray, List.append_toArray, List.nil_append, List.cons_append]
  gi_wp2
  refine Rd.region hmx (N := 16) (X := fun t => (A54 s gp k x s1 s2 Bp Bq bp off cap).getD t undef) (by kernel_rfl) rfl ?_ (Rd.cons ?_ (Rd.cons ?_ (Rd.cons ?_ (Rd.cons ?_ (Rd.cons ?_ (Rd.cons ?_ (Rd.cons ?_ (Rd.cons ?_ (Rd.cons ?_ (Rd.cons ?_ Rd.nil)))))))))) ?_
  · intro t ht hw
    match t, ht, hw with
    | 0, _, _ => exact rfl
    | 1, _, _ => exact rfl
    | 2, _, _ => exact rfl
    | 3, _, _ => exact rfl
    | 4, _, _ => exact rfl
    | 5, _, _ => exact rfl
    | 6, _, hw => exact absurd hw (by decide)
    | 7, _, hw => exact absurd hw (by decide)
    | 8, _, hw => exact absurd hw (by decide)
    | 9, _, hw => exact absurd hw (by decide)
    | 10, _, hw => exact absurd hw (by decide)
    | 11, _, hw => exact absurd hw (by decide)
    | 12, _, hw => exact absurd hw (by decide)
    | 13, _, hw => exact absurd hw (by decide)
    | 14, _, hw => exact absurd hw (by decide)
    | 15, _, hw => exact absurd hw (by decide)
    | n + 16, h, _ => exact absurd h (by omega)
  · intro a w1 K hsz hdf hkn hb hK
    obtain ⟨x0, x1, x2, x3, x4, x5, x6, x7, x8, x9, x10, x11, x12, x13, x14, x15, rfl⟩ := Rd.act16 hsz hdf
    have k2 := hkn 2 (by decide) (by kernel_rfl)
    obtain rfl : x2 = .pointer (some ⟨Bp, 0, none⟩) := k2
    have q0 := (hb.cell (p := ⟨Bp, 0, none⟩) hBp).trans hc
    refine wpOpIn_step rfl (fun K' hK' => ?_)
    go_simp
    refine hK' _ _ ?_
    exact hK _ hb
  · intro a w1 K hsz hdf hkn hb hK
    obtain ⟨x0, x1, x2, x3, x4, x5, x6, x7, x8, x9, x10, x11, x12, x13, x14, x15, rfl⟩ := Rd.act16 hsz hdf
    have k0 := hkn 0 (by decide) (by kernel_rfl)
    obtain rfl : x0 = .int .i64 (k : Int) := k0
    refine wpOpIn_step rfl (fun K' hK' => ?_)
    go_simp
    refine hK' _ _ ?_
    exact hK _ hb
  · intro a w1 K hsz hdf hkn hb hK
    obtain ⟨x0, x1, x2, x3, x4, x5, x6, x7, x8, x9, x10, x11, x12, x13, x14, x15, rfl⟩ := Rd.act16 hsz hdf
    have k7 := hkn 7 (by decide) (by kernel_rfl)
    have k8 := hkn 8 (by decide) (by kernel_rfl)
    obtain rfl : x7 = .slice (some ⟨bp, off, none⟩) s.n cap := k7
    obtain rfl : x8 = .int .i64 (k : Int) := k8
    refine wpOpIn_step rfl (fun K' hK' => ?_)
    go_simp
    refine hK' _ _ ?_
    exact hK _ hb
  · intro a w1 K hsz hdf hkn hb hK
    obtain ⟨x0, x1, x2, x3, x4, x5, x6, x7, x8, x9, x10, x11, x12, x13, x14, x15, rfl⟩ := Rd.act16 hsz hdf
    have k9 := hkn 9 (by decide) (by kernel_rfl)
    obtain rfl : x9 = .pointer (some ⟨bp, off + k, none⟩) := k9
    have q0 := (hb.cell (p := ⟨bp, off + k, none⟩) hE.1).trans ek
    refine wpOpIn_step rfl (fun K' hK' => ?_)
    go_simp
    refine hK' _ _ ?_
    exact hK _ hb
  · intro a w1 K hsz hdf hkn hb hK
    obtain ⟨x0, x1, x2, x3, x4, x5, x6, x7, x8, x9, x10, x11, x12, x13, x14, x15, rfl⟩ := Rd.act16 hsz hdf
    have k3 := hkn 3 (by decide) (by kernel_rfl)
    obtain rfl : x3 = .pointer (some ⟨Bq, 0, none⟩) := k3
    have q0 := (hb.cell (p := ⟨Bq, 0, none⟩) hBq).trans q0
    have q1 := (hb.cell (p := ⟨Bq, 1, none⟩) hBq).trans q1
    have q2 := (hb.cell (p := ⟨Bq, 2, none⟩) hBq).trans q2
    have q3 := (hb.cell (p := ⟨Bq, 3, none⟩) hBq).trans q3
    have q4 := (hb.cell (p := ⟨Bq, 4, none⟩) hBq).trans q4
    have q5 := (hb.cell (p := ⟨Bq, 5, none⟩) hBq).trans q5
    have q6 := (hb.cell (p := ⟨Bq, 6, none⟩) hBq).trans q6
    refine wpOpIn_step rfl (fun K' hK' => ?_)
    go_simp
    refine hK' _ _ ?_
    exact hK _ hb
  · intro a w1 K hsz hdf hkn hb hK
    obtain ⟨x0, x1, x2, x3, x4, x5, x6, x7, x8, x9, x10, x11, x12, x13, x14, x15, rfl⟩ := Rd.act16 hsz hdf
    have k0 := hkn 0 (by decide) (by kernel_rfl)
    obtain rfl : x0 = .int .i64 (k : Int) := k0
    refine wpOpIn_step rfl (fun K' hK' => ?_)
    go_simp
    refine hK' _ _ ?_
    exact hK _ hb
  · intro a w1 K hsz hdf hkn hb hK
    obtain ⟨x0, x1, x2, x3, x4, x5, x6, x7, x8, x9, x10, x11, x12, x13, x14, x15, rfl⟩ := Rd.act16 hsz hdf
    have k1 := hkn 1 (by decide) (by kernel_rfl)
    obtain rfl : x1 = .int .i64 x := k1
    refine wpOpIn_step rfl (fun K' hK' => ?_)
    go_simp
    refine hK' _ _ ?_
    exact hK _ hb
  · intro a w1 K hsz hdf hkn hb hK
    obtain ⟨x0, x1, x2, x3, x4, x5, x6, x7, x8, x9, x10, x11, x12, x13, x14, x15, rfl⟩ := Rd.act16 hsz hdf
    have k11 := hkn 11 (by decide) (by kernel_rfl)
    have k12 := hkn 12 (by decide) (by kernel_rfl)
    have k13 := hkn 13 (by decide) (by kernel_rfl)
    obtain rfl : x11 = .agg #[s1, s2, .int .i64 (s.g 0), .int .i64 (s.g 1), .int .i64 (s.g 2), .int .i64 (s.g 3), .int .i64 (s.g 4)] := k11
    obtain rfl : x12 = .int .i64 (k : Int) := k12
    obtain rfl : x13 = .int .i64 x := k13
    refine wpOpIn_step rfl (fun K' hK' => ?_)
    go_simp
    gi_wp2_with (refine ⟨trivial, ?_⟩; gi_at_call 52; refine (callsIn_wide.2 (few52 ok (hS.below hb) hk hx)).mono ?_; rintro e w' ⟨rfl, hb'⟩)
    exact hb.trans (hb'.mono hb.size)
  · intro a w1 K hsz hdf hkn hb hK
    obtain ⟨x0, x1, x2, x3, x4, x5, x6, x7, x8, x9, x10, x11, x12, x13, x14, x15, rfl⟩ := Rd.act16 hsz hdf
    have k10 := hkn 10 (by decide) (by kernel_rfl)
    have k14 := hkn 14 (by decide) (by kernel_rfl)
    obtain rfl : x10 = .int .i64 (gp k) := k10
    obtain rfl : x14 = .int .i64 (fw s k x) := k14
    refine wpOpIn_step rfl (fun K' hK' => ?_)
    go_simp
    refine hK' _ _ ?_
    exact hK _ hb
  · intro a w1 K hsz hdf hkn hb hK
    obtain ⟨x0, x1, x2, x3, x4, x5, x6, x7, x8, x9, x10, x11, x12, x13, x14, x15, rfl⟩ := Rd.act16 hsz hdf
    have k15 := hkn 15 (by decide) (by kernel_rfl)
    obtain rfl : x15 = .int .i64 (rpw s gp k x) := k15
    refine wpOpIn_step rfl (fun K' hK' => ?_)
    go_simp
    refine hK' _ _ ?_
    exact hK _ hb
  · intro a' w1 hsz' hdf' hX' hb
    obtain rfl := Rd.act_of (L := A54 s gp k x s1 s2 Bp Bq bp off cap) rfl hsz' hdf' hX'
    unfold A54
    gi_wp2
    go_ret
    exact ⟨rfl, (Below.refl _ w).drew.trans hb⟩
end
end Go.Proofs.Ytblbjmdeaojogaa.sea
