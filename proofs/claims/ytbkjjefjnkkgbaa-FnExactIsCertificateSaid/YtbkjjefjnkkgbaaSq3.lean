import Derived.Test.YtbkjjefjnkkgbaaSc
import Derived.Test.YtbkjjefjnkkgbaaSea
namespace Go.Proofs.Ytbkjjefjnkkgbaa.sea
open Go Go.Ab Go.Proofs Go.RowKit
set_option linter.unusedVariables false
/-- A season's value. -/
def SeaV (s : Sea) (W : World) (v : Value) : Prop := ∃ s1 s2, v = .agg #[s1, s2, .int .i64 (s.g 0), .int .i64 (s.g 1), .int .i64 (s.g 2), .int .i64 (s.g 3), .int .i64 (s.g 4)] ∧ SlV s.gn W.heap.size W s1 s.n ∧ SlV s.gm W.heap.size W s2 s.m ∧ s.n ≤ 9223372036854775807 ∧ s.m ≤ 9223372036854775807
theorem SeaV.below {s : Sea} {A B : World} (h : Below A.heap.size A B) {v : Value} : SeaV s A v → SeaV s B v
  | ⟨s1, s2, e, h1, h2, h3, h4⟩ => ⟨s1, s2, e, h1.at h, h2.at h, h3, h4⟩
def Sea.a (s : Sea) (j : Nat) : AVal := .agg [.vec j 1 0 (.sym s.n), .vec (j + 1) 1 0 (.sym s.m), .sint .i64 (s.g 0), .sint .i64 (s.g 1), .sint .i64 (s.g 2), .sint .i64 (s.g 3), .sint .i64 (s.g 4)]
def rN (s : Sea) (v : Value) : IRow := ⟨v, s.n, s.gn⟩
def rM (s : Sea) (v : Value) : IRow := ⟨v, s.m, s.gm⟩
theorem sea_a {s : Sea} {s1 s2 : Value} {ρ : Rho} {j : Nat} (h1 : V ρ (.vec j 1 0 (.sym s.n)) s1) (h2 : V ρ (.vec (j + 1) 1 0 (.sym s.m)) s2) : V ρ (Sea.a s j) (.agg #[s1, s2, .int .i64 (s.g 0), .int .i64 (s.g 1), .int .i64 (s.g 2), .int .i64 (s.g 3), .int .i64 (s.g 4)]) := by
  unfold Sea.a
  unfold V
  exact ⟨_, rfl, VL_cons h1 (VL_cons h2 (VL_cons (sint_V .i64 _) (VL_cons (sint_V .i64 _) (VL_cons (sint_V .i64 _) (VL_cons (sint_V .i64 _) (VL_cons (sint_V .i64 _) VL_nil))))))⟩
theorem two_rows {s : Sea} {W : World} {s1 s2 : Value} (h1 : SlV s.gn W.heap.size W s1 s.n) (h2 : SlV s.gm W.heap.size W s2 s.m) : ∀ x, x ∈ [rN s s1, rM s s2] → SlV x.gd W.heap.size W x.sv x.n := by
  intro x hx
  simp only [List.mem_cons, List.not_mem_nil, or_false] at hx
  rcases hx with rfl | rfl
  · exact h1
  · exact h2
/-- The evaluator's walk of a function of a season and of numbers. -/
theorem sea_call {f : FuncId} {fn : Func} (hf : Try.prog.funcs[f]? = some fn) (hcall : ∀ (args : Array Value) (w : World), (callFunc f args).run Try.prog w = .ok (.enter f args) w) {s : Sea} {w : World} {v : Value} (hS : SeaV s w v) {ys : List AVal} {us : List Value} (has : VL noRho ys us) (hfl : AVal.flat.flatL ys = true)
    {x : AVal} {nd : Bool} (he : ∀ s1 s2, evBody Try.prog sev.GG 100 fn (Sea.a s 0 :: ys) (viewS ([rN s s1, rM s s2].map IRow.vc)) = some ⟨x, [], [], [], nd, none⟩) (hnd : nd = true) (hx : x.flat = true) :
    Calls Try.prog f ⟨v :: us⟩ w fun e w' => ∃ u, e = .returned u ∧ V noRho x u ∧ Below w.heap.size w w' := by
  obtain ⟨s1, s2, rfl, h1, h2, _, _⟩ := hS
  exact calls_ev sev.gg sev.mixed hf hcall 100 (he s1 s2) hnd hx w (two_rows h1 h2) (fun ρ hρ => VL_cons (sea_a (hρ 0 _ rfl) (hρ 1 _ rfl)) (VL_flat ys us hfl has))
theorem ble_t {a b : Nat} (h : a ≤ b) : Nat.ble a b = true := Nat.ble_eq_true_of_le h
def nd14 (s : Sea) : Bool := cond (ndc (cond (decide (Int.ofNat s.n ≥ 1)) (decide (Int.ofNat s.n ≤ 24)) false) (ndc (decide (Int.ofNat s.m = Int.ofNat s.n)) (cond (andN true (Nat.ble (Nat.add 0 s.n) s.n && Nat.ble s.n 9223372036854775807)) (ndc (allB s.n (fun k => inB (s.gn (Nat.add 0 k)) 0 200)) (cond (andN true (Nat.ble (Nat.add 0 s.m) s.m && Nat.ble s.m 9223372036854775807)) true false) true) false) true) true) true false
theorem nd14_true {s : Sea} (h1 : s.n ≤ 9223372036854775807) (h2 : s.m ≤ 9223372036854775807) : nd14 s = true := by
  unfold nd14
  rw [ble_t h1, ble_t h2, ble_t (show Nat.add 0 s.n ≤ s.n by show 0 + s.n ≤ s.n; omega), ble_t (show Nat.add 0 s.m ≤ s.m by show 0 + s.m ≤ s.m; omega)]
  simp only [ndc_eq]
  simp [andN]
/-- okSea, as the evaluator writes it. -/
def okE (s : Sea) : Bool := okSea ⟨s.n, s.m, fun k => s.gn (Nat.add 0 k), fun k => s.gm (Nat.add 0 k), s.g⟩
theorem okE_eq (s : Sea) : okE s = okSea s := by
  unfold okE
  congr 1
  cases s
  simp
theorem ok14 {s : Sea} {w : World} {v : Value} (hS : SeaV s w v) : Calls Try.prog 15 #[v] w fun e w' => e = .returned (.bool (okSea s)) ∧ Below w.heap.size w w' := by
  have hn := hS
  obtain ⟨_, _, _, _, _, h3, h4⟩ := hn
  refine (sea_call Try.func15 Try.call15 hS (ys := []) (us := []) VL_nil rfl (x := .sbool (okE s)) (nd := nd14 s) (fun s1 s2 => by kernel_rfl) (nd14_true h3 h4) rfl).mono ?_
  rintro e w' ⟨u, rfl, hu, hb⟩
  unfold V at hu
  subst hu
  exact ⟨by rw [okE_eq], hb⟩
theorem has44 {s : Sea} {w : World} {v : Value} (hS : SeaV s w v) (k : Int) : Calls Try.prog 50 #[v, .int .i64 k] w fun e w' => e = .returned (.bool (cond (decide (k ≥ 0)) (decide (k < Int.ofNat s.n)) false)) ∧ Below w.heap.size w w' := by
  refine (sea_call Try.func50 Try.call50 hS (ys := [.sint .i64 k]) (VL_cons (sint_V .i64 _) VL_nil) rfl (x := .sbool (cond (decide (k ≥ 0)) (decide (k < Int.ofNat s.n)) false)) (nd := true) (fun s1 s2 => by kernel_rfl) rfl rfl).mono ?_
  rintro e w' ⟨u, rfl, hu, hb⟩
  unfold V at hu
  subst hu
  exact ⟨rfl, hb⟩
/-! ### after -/
def heatW (s : Sea) (k st lg : Int) : Int := IntKind.i64.wrap (IntKind.i64.wrap (st + IntKind.i64.wrap (lg * s.g 1)) - s.gn (Nat.add 0 k.toNat))
def leftW (s : Sea) (h : Int) : Int := IntKind.i64.wrap (h - IntKind.i64.wrap ((IntKind.i64.wrap (h * s.g 4)).tdiv 100))
theorem wrap_in {x : Int} (h : -9223372036854775808 ≤ x ∧ x ≤ 9223372036854775807) : IntKind.i64.wrap x = x := IntWalk.i64_in _ h
theorem heatW_eq {s : Sea} (o : s.Ok) {k : Nat} (hk : k < s.n) {st lg : Int} (h1 : 0 ≤ st ∧ st ≤ 60) (h2 : 0 ≤ lg ∧ lg ≤ 20) : heatW s k st lg = s.heat k st lg := by
  have hg := o.gn k hk
  have hy := o.yield
  have h3 : 0 ≤ lg * s.g 1 := Int.mul_nonneg h2.1 (by omega)
  have h4 : lg * s.g 1 ≤ 20 * 40 := Int.le_trans (Int.mul_le_mul_of_nonneg_right h2.2 (by omega)) (Int.mul_le_mul_of_nonneg_left hy.2 (by omega))
  have e0 : Nat.add 0 (k : Int).toNat = k := by show 0 + (k : Int).toNat = k; omega
  unfold heatW Sea.heat
  rw [e0, wrap_in (x := lg * s.g 1) (by omega), wrap_in (x := st + lg * s.g 1) (by omega), wrap_in (by omega)]
theorem leftW_eq {s : Sea} (o : s.Ok) {h : Int} (hh : 0 ≤ h) (h2 : h ≤ 860) : leftW s h = h - h * s.g 4 / 100 := by
  have hl := o.loss
  have hb := loss_bd hh hl
  have h1 : 0 ≤ h * s.g 4 := Int.mul_nonneg hh hl.1
  have h4 : h * s.g 4 ≤ 860 * 100 := Int.le_trans (Int.mul_le_mul_of_nonneg_right h2 hl.1) (Int.mul_le_mul_of_nonneg_left hl.2 (by omega))
  unfold leftW
  rw [wrap_in (x := h * s.g 4) (by omega), Int.tdiv_eq_ediv_of_nonneg h1, wrap_in (x := h * s.g 4 / 100) (by omega), wrap_in (by omega)]
def nd45 (s : Sea) (k : Int) : Bool := cond (andN (andN true (decide (Int.ofNat 0 ≤ k) && Nat.ble (k.toNat + 1) s.n)) (Nat.ble (Nat.add 0 k.toNat + 1) s.n)) true false
theorem nd45_true {s : Sea} {k : Nat} (hk : k < s.n) : nd45 s k = true := by
  unfold nd45
  have e1 : decide (Int.ofNat 0 ≤ (k : Int)) = true := decide_eq_true (by show (0 : Int) ≤ k; omega)
  rw [e1, ble_t (show (k : Int).toNat + 1 ≤ s.n by omega), ble_t (show Nat.add 0 (k : Int).toNat + 1 ≤ s.n by show 0 + (k : Int).toNat + 1 ≤ s.n; omega)]
  rfl
def a45 (s : Sea) (k st lg : Int) : AVal := .tuple [.sint .i64 (cond (decide (heatW s k st lg < 0)) 0 (cond (decide (s.g 2 < leftW s (heatW s k st lg))) (s.g 2) (leftW s (heatW s k st lg)))), .sbool (cond (decide (heatW s k st lg < 0)) false true)]
theorem after45 {s : Sea} (o : s.Ok) {w : World} {v : Value} (hS : SeaV s w v) {k : Nat} (hk : k < s.n) {st lg : Int} (h1 : 0 ≤ st ∧ st ≤ s.g 2) (h2 : 0 ≤ lg ∧ lg ≤ s.g 0) :
    Calls Try.prog 51 #[v, .int .i64 (k : Int), .int .i64 st, .int .i64 lg] w fun e w' => e = .returned (.tuple #[.int .i64 (cond (s.does k st lg) (s.next k st lg) 0), .bool (s.does k st lg)]) ∧ Below w.heap.size w w' := by
  have hs := o.store
  have hm := o.most
  have hW := heatW_eq o hk (st := st) (lg := lg) ⟨h1.1, by omega⟩ ⟨h2.1, by omega⟩
  have hbd := o.heat_bd hk (store := st) (logs := lg) ⟨h1.1, by omega⟩ ⟨h2.1, by omega⟩
  refine (sea_call Try.func51 Try.call51 hS (ys := [.sint .i64 k, .sint .i64 st, .sint .i64 lg]) (VL_cons (sint_V .i64 _) (VL_cons (sint_V .i64 _) (VL_cons (sint_V .i64 _) VL_nil))) rfl (x := a45 s k st lg) (nd := nd45 s k) (fun s1 s2 => by kernel_rfl) (nd45_true hk) rfl).mono ?_
  rintro e w' ⟨u, rfl, hu, hb⟩
  unfold a45 at hu
  unfold V at hu
  obtain ⟨us, rfl, hu⟩ := hu
  unfold VL at hu
  obtain ⟨x1, r1, rfl, hx1, hu⟩ := hu
  unfold VL at hu
  obtain ⟨x2, r2, rfl, hx2, hu⟩ := hu
  unfold VL at hu
  subst hu
  unfold V at hx1 hx2
  subst hx1; subst hx2
  refine ⟨?_, hb⟩
  rw [hW]
  unfold Sea.does Sea.next
  by_cases hneg : s.heat k st lg < 0
  · rw [decide_eq_true hneg, decide_eq_false (by omega : ¬ 0 ≤ s.heat k st lg)]; rfl
  · rw [decide_eq_false hneg, decide_eq_true (by omega : 0 ≤ s.heat k st lg), leftW_eq o (by omega) hbd.2]; rfl
end Go.Proofs.Ytbkjjefjnkkgbaa.sea
