import Derived.Test.YtbkjjefjnkkgbaaTk4
import Derived.Test.YtbkjjefjnkkgbaaSb
namespace Go.Proofs.Ytbkjjefjnkkgbaa.sea
open Go Go.Ab Go.Proofs Go.RowKit Go.Shelf
set_option linter.unusedVariables false
section
variable {s : Sea} {w : World} {T : Tab}
def nd14t (s : Sea) : Bool := cond (andN (andN true (Nat.ble (Nat.mul (Nat.add s.n 0) 8) 140737488355328 && Nat.ble (Nat.add s.n 0) 140737488355328 && Nat.ble (Nat.add 0 s.n) s.n)) (Nat.ble (Nat.mul (Nat.add s.m 0) 8) 140737488355328 && Nat.ble (Nat.add s.m 0) 140737488355328 && Nat.ble (Nat.add 0 s.m) s.m)) (cond (Nat.ble (Nat.add 0 s.n) s.n) (Nat.ble (Nat.add 0 s.m) s.m) false) false
def nw14 (s : Sea) : List Blk := [⟨[], false, some ⟨[.int .i64], .sym s.n, fun _ _ => 0, fun k _ => s.gn (Nat.add 0 (Nat.add 0 k)), fun _ _ => false, true⟩⟩, ⟨[], false, some ⟨[.int .i64], .sym s.m, fun _ _ => 0, fun k _ => s.gm (Nat.add 0 (Nat.add 0 k)), fun _ _ => false, true⟩⟩]
theorem ev14 (s : Sea) (s1 s2 : Value) : evBody Try.prog ab.G4 100 Try.f14 [Sea.a s 0] (viewS ([rN s s1, rM s s2].map IRow.vc)) = some ⟨Sea.a s 2, [], [], nw14 s, nd14t s, none⟩ := by kernel_rfl
def sea14 (s : Sea) : Sea := ⟨s.n, s.m, fun k => s.gn (Nat.add 0 (Nat.add 0 (Nat.add 0 k))), fun k => s.gm (Nat.add 0 (Nat.add 0 (Nat.add 0 k))), seaG (s.g 0) (s.g 1) (s.g 2) (s.g 3) (s.g 4)⟩
def b14 (s : Sea) : Bool := (Nat.ble (Nat.add 0 s.n) s.n && Nat.ble s.n 9223372036854775807) && (Nat.ble (Nat.add 0 s.m) s.m && Nat.ble s.m 9223372036854775807)
theorem so14 (s : Sea) (s1 s2 : Value) : seaOf ((viewS ([rN s s1, rM s s2].map IRow.vc)).put [] [] (nw14 s)) [.vec 2 1 0 (.sym s.n), .vec 3 1 0 (.sym s.m), .sint .i64 (s.g 0), .sint .i64 (s.g 1), .sint .i64 (s.g 2), .sint .i64 (s.g 3), .sint .i64 (s.g 4)] = some (sea14 s, b14 s) := by kernel_rfl
theorem nd14_t (hn : s.n ≤ 1048576) (hm : s.m ≤ 1048576) : nd14t s = true := by
  unfold nd14t
  rw [ble_t (show Nat.mul (Nat.add s.n 0) 8 ≤ 140737488355328 by show (s.n + 0) * 8 ≤ _; omega), ble_t (show Nat.add s.n 0 ≤ 140737488355328 by show s.n + 0 ≤ _; omega), ble_t (show Nat.add 0 s.n ≤ s.n by show 0 + s.n ≤ _; omega), ble_t (show Nat.mul (Nat.add s.m 0) 8 ≤ 140737488355328 by show (s.m + 0) * 8 ≤ _; omega), ble_t (show Nat.add s.m 0 ≤ 140737488355328 by show s.m + 0 ≤ _; omega), ble_t (show Nat.add 0 s.m ≤ s.m by show 0 + s.m ≤ _; omega)]
  rfl
theorem b14_t (hn : s.n ≤ 1048576) (hm : s.m ≤ 1048576) : b14 s = true := by
  unfold b14
  rw [ble_t (show Nat.add 0 s.n ≤ s.n by show 0 + s.n ≤ _; omega), ble_t (show Nat.add 0 s.m ≤ s.m by show 0 + s.m ≤ _; omega), ble_t (show s.n ≤ 9223372036854775807 by omega), ble_t (show s.m ≤ 9223372036854775807 by omega)]
  rfl
theorem sea14_V {v : Value} (h : SeaV (sea14 s) w v) : SeaV s w v := by
  obtain ⟨t1, t2, e, k1, k2, k3, k4⟩ := h
  have e1 : (sea14 s).gn = s.gn := funext fun k => by show s.gn (0 + (0 + (0 + k))) = _; simp
  have e2 : (sea14 s).gm = s.gm := funext fun k => by show s.gm (0 + (0 + (0 + k))) = _; simp
  rw [e1] at k1
  rw [e2] at k2
  exact ⟨t1, t2, e, k1, k2, k3, k4⟩
theorem calls_evM {P : Program} {Γ : List (Nat × Ctr)} (hΓ : Ab.Good P Γ) (hm : P.follows .mixedOrders = true) {f : FuncId} {fn : Func} (hf : P.funcs[f]? = some fn) (hcall : ∀ (args : Array Value) (w : World), (callFunc f args).run P w = .ok (.enter f args) w) (fuel : Nat)
    {args : List AVal} {xs : List IRow} {v : AVal} {nw : List Blk} {nd : Bool} (he : evBody P Γ fuel fn args (viewS (xs.map IRow.vc)) = some ⟨v, [], [], nw, nd, none⟩) (hnd : nd = true) (w : World) (h : ∀ x, x ∈ xs → SlV x.gd w.heap.size w x.sv x.n) {vs : List Value}
    (hv : ∀ ρ : Rho, (∀ (j : Nat) (x : IRow), xs[j]? = some x → V ρ (.vec j 1 0 (.sym x.n)) x.sv) → VL ρ args vs) : Calls P f ⟨vs⟩ w fun e w' => ∃ u ρ', e = .returned u ∧ V ρ' v u ∧ Hp ρ' ((viewS (xs.map IRow.vc)).put [] [] nw) w' ∧ Below w.heap.size w w' := by
  obtain ⟨ρ, hM, hx⟩ := mem_ints xs h
  have hs : SatC P f (inl P Γ fuel fn) := inl_sat hΓ hm hf hcall fuel
  refine (hs.sat _ _ _ he hnd NoM w ρ w vs hM (hv ρ hx)).mono ?_
  intro e w' hr
  cases e with
  | outgrown => exact hr.elim
  | panicked ch => obtain ⟨v, u, hp, _⟩ := hr; cases hp
  | returned u =>
    obtain ⟨_, ρ', _, hu, hm'⟩ := hr
    exact ⟨u, ρ', rfl, hu, hm'.hp, hm'.fr.below⟩
theorem to14 {v : Value} (hS : SeaV s w v) (hn : s.n ≤ 1048576) (hm : s.m ≤ 1048576) :
    Calls Try.prog 14 #[v] w fun e w' => (∃ v', e = .returned v' ∧ SeaV s w' v') ∧ Below w.heap.size w w' := by
  obtain ⟨s1, s2, rfl, h1, h2, hl1, hl2⟩ := hS
  refine (calls_evM ab.g4 ab.mixed Try.func14 Try.call14 100 (ev14 s s1 s2) (nd14_t hn hm) w (two_rows h1 h2) (vs := [_]) (fun ρ hρ => VL_cons (sea_a (hρ 0 _ rfl) (hρ 1 _ rfl)) VL_nil)).mono ?_
  rintro e w' ⟨u, ρ', rfl, hu, hp, hb⟩
  refine ⟨⟨u, rfl, ?_⟩, hb⟩
  unfold Sea.a at hu
  unfold V at hu
  obtain ⟨us, rfl, hl⟩ := hu
  exact sea14_V (seaOf_V hp (so14 s s1 s2) (b14_t hn hm) hl)
end
end Go.Proofs.Ytbkjjefjnkkgbaa.sea
