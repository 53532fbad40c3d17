import Derived.Test.YtbkjjefjnkkgbaaSq3
namespace Go.Proofs.Ytbkjjefjnkkgbaa.sea
open Go Go.Ab Go.Proofs Go.RowKit
set_option linter.unusedVariables false
/-- A season that is pointed to. -/
def SeaP (s : Sea) (W : World) (b off : Nat) : Prop := b < W.heap.size ∧ ∃ us : List Value, SeaV s W (.agg ⟨us⟩) ∧ ∀ (q : Nat) (u : Value), us[q]? = some u → W.cell? ⟨b, off + q, none⟩ = some u
theorem SeaP.below {s : Sea} {A B : World} (h : Below A.heap.size A B) {b off : Nat} : SeaP s A b off → SeaP s B b off
  | ⟨h1, us, h2, h3⟩ => ⟨Nat.lt_of_lt_of_le h1 h.size, us, h2.below h, fun q u hq => (h.cell (p := ⟨b, _, none⟩) h1).trans (h3 q u hq)⟩
def Sea.c (s : Sea) (j : Nat) : List AVal := [.vec j 1 0 (.sym s.n), .vec (j + 1) 1 0 (.sym s.m), .sint .i64 (s.g 0), .sint .i64 (s.g 1), .sint .i64 (s.g 2), .sint .i64 (s.g 3), .sint .i64 (s.g 4)]
theorem sea_c {s : Sea} {s1 s2 : Value} {ρ : Rho} {j : Nat} (h1 : V ρ (.vec j 1 0 (.sym s.n)) s1) (h2 : V ρ (.vec (j + 1) 1 0 (.sym s.m)) s2) : VL ρ (Sea.c s j) [s1, s2, .int .i64 (s.g 0), .int .i64 (s.g 1), .int .i64 (s.g 2), .int .i64 (s.g 3), .int .i64 (s.g 4)] :=
  VL_cons h1 (VL_cons h2 (VL_cons (sint_V .i64 _) (VL_cons (sint_V .i64 _) (VL_cons (sint_V .i64 _) (VL_cons (sint_V .i64 _) (VL_cons (sint_V .i64 _) VL_nil))))))
theorem sea_callP {f : FuncId} {fn : Func} (hf : Try.prog.funcs[f]? = some fn) (hcall : ∀ (args : Array Value) (w : World), (callFunc f args).run Try.prog w = .ok (.enter f args) w) {s : Sea} {w : World} {b off : Nat} (hS : SeaP s w b off) {ys : List AVal} {us : List Value} (has : VL noRho ys us) (hfl : AVal.flat.flatL ys = true)
    {x : AVal} {nd : Bool} (he : ∀ s1 s2, evBody Try.prog sev.GG 100 fn (.ptr 0 0 :: ys) (cellS (Sea.c s 1) ([rN s s1, rM s s2].map IRow.vc)) = some ⟨x, [], [], [], nd, none⟩) (hnd : nd = true) (hx : x.flat = true) :
    Calls Try.prog f ⟨.pointer (some ⟨b, off, none⟩) :: us⟩ w fun e w' => ∃ u, e = .returned u ∧ V noRho x u ∧ Below w.heap.size w w' := by
  obtain ⟨hb, cs, ⟨s1, s2, e, h1, h2, _, _⟩, hc⟩ := hS
  have e : cs = [s1, s2, .int .i64 (s.g 0), .int .i64 (s.g 1), .int .i64 (s.g 2), .int .i64 (s.g 3), .int .i64 (s.g 4)] := by injection e with e; injection e
  subst e
  exact calls_evP sev.gg sev.mixed hf hcall 100 (he s1 s2) hnd hx w (two_rows h1 h2) hb hc (fun ρ hρ => sea_c (hρ 0 _ rfl) (hρ 1 _ rfl)) (fun ρ hρ => VL_flat ys us hfl has)
set_option maxRecDepth 1000000 in
theorem ok36 {s : Sea} {w : World} {b off : Nat} (hS : SeaP s w b off) : Calls Try.prog 42 #[.pointer (some ⟨b, off, none⟩)] w fun e w' => e = .returned (.bool (okSea s)) ∧ Below w.heap.size w w' := by
  have hn := hS
  obtain ⟨_, _, ⟨_, _, _, _, _, h3, h4⟩, _⟩ := hn
  refine (sea_callP Try.func42 Try.call42 hS (ys := []) (us := []) VL_nil rfl (x := .sbool (okE s)) (nd := nd14 s) (fun s1 s2 => by kernel_rfl) (nd14_true h3 h4) rfl).mono ?_
  rintro e w' ⟨u, rfl, hu, hb⟩
  unfold V at hu
  subst hu
  exact ⟨by rw [okE_eq], hb⟩
theorem SeaP.box {s : Sea} {w : World} {us : List Value} (t : TypeId) (hS : SeaV s w (.agg ⟨us⟩)) : SeaP s (w.alloc (.cells ⟨us⟩ t)) w.heap.size 0 := by
  have hB : Below w.heap.size w (w.alloc (.cells ⟨us⟩ t)) := (Below.refl _ w).alloc (Nat.le_refl _) _
  refine ⟨by simp, us, hS.below hB, fun q u hq => ?_⟩
  have hnew := World.alloc_heap_new w (.cells ⟨us⟩ t)
  unfold World.cell?
  simp only [hnew]
  rw [Nat.zero_add]
  simpa using hq
theorem ok12 {s : Sea} {w : World} {v : Value} (hS : SeaV s w v) : Calls Try.prog 13 #[v] w fun e w' => e = .returned (.bool (okSea s)) ∧ Below w.heap.size w w' := by
  have hS' := hS
  obtain ⟨s1, s2, rfl, _⟩ := hS'
  have hP := SeaP.box 27 hS
  have hB : Below w.heap.size w (w.alloc (.cells #[s1, s2, .int .i64 (s.g 0), .int .i64 (s.g 1), .int .i64 (s.g 2), .int .i64 (s.g 3), .int .i64 (s.g 4)] 27)) := (Below.refl _ w).alloc (Nat.le_refl _) _
  go_enter Try.func13, Try.ntmps13
  go_wp2_with (go_at_call 42; refine (ok36 hP).mono ?_; rintro e w' ⟨rfl, hb⟩)
  go_ret
  exact ⟨rfl, hB.trans (hb.mono (by simp))⟩
def a43 (s : Sea) (k st lg : Int) : AVal := .sint .i64 (cond (decide (heatW s k st lg < 0)) (-1) (cond (decide (s.g 2 < leftW s (heatW s k st lg))) (s.g 2) (leftW s (heatW s k st lg))))
theorem after43 {s : Sea} (o : s.Ok) {w : World} {b off : Nat} (hS : SeaP s w b off) {k : Nat} (hk : k < s.n) {st lg : Int} (h1 : 0 ≤ st ∧ st ≤ s.g 2) (h2 : 0 ≤ lg ∧ lg ≤ s.g 0) :
    Calls Try.prog 49 #[.pointer (some ⟨b, off, none⟩), .int .i64 (k : Int), .int .i64 st, .int .i64 lg] w fun e w' => e = .returned (.int .i64 (cond (s.does k st lg) (s.next k st lg) (-1))) ∧ Below w.heap.size w w' := by
  have hs := o.store
  have hm := o.most
  have hW := heatW_eq o hk (st := st) (lg := lg) ⟨h1.1, by omega⟩ ⟨h2.1, by omega⟩
  have hbd := o.heat_bd hk (store := st) (logs := lg) ⟨h1.1, by omega⟩ ⟨h2.1, by omega⟩
  refine (sea_callP Try.func49 Try.call49 hS (ys := [.sint .i64 k, .sint .i64 st, .sint .i64 lg]) (VL_cons (sint_V .i64 _) (VL_cons (sint_V .i64 _) (VL_cons (sint_V .i64 _) VL_nil))) rfl (x := a43 s k st lg) (nd := nd45 s k) (fun s1 s2 => by kernel_rfl) (nd45_true hk) rfl).mono ?_
  rintro e w' ⟨u, rfl, hu, hb⟩
  unfold a43 at hu
  unfold V at hu
  subst hu
  refine ⟨?_, hb⟩
  rw [hW]
  unfold Sea.does Sea.next
  by_cases hneg : s.heat k st lg < 0
  · rw [decide_eq_true hneg, decide_eq_false (by omega : ¬ 0 ≤ s.heat k st lg)]; rfl
  · rw [decide_eq_false hneg, decide_eq_true (by omega : 0 ≤ s.heat k st lg), leftW_eq o (by omega) hbd.2]; rfl
end Go.Proofs.Ytbkjjefjnkkgbaa.sea
