import Derived.Test.YtnkfeoodbhihcaaGh
import Derived.Test.YtnkfeoodbhihcaaProg
import Derived.RangeFuncNested
import Derived.RangeFuncBound
import Derived.RangeFuncCalls
import Derived.RangeFuncLeaves
import Derived.Shelf.Abstract
import Derived.WalkKit
import Derived.OwnWalkIn
import Derived.TacticsInMore
import Derived.LoopNIn
import Derived.LoopIn
namespace Go.Proofs.Ytnkfeoodbhihcaa.lm
open Go Go.Proofs Go.RowKit Go.Shelf
attribute [local go_sem] Oper.semAt_some
set_option linter.unusedVariables false
/-- An entry. -/
def en (gd : Nat → Nat → Int) (bd : Nat → Nat → Bool) (k : Nat) : Value := .agg #[.bool (bd k 0), .int .u32 (gd k 1), .int .i64 (gd k 2), .int .i64 (gd k 3), .int .i64 (gd k 4)]
section
variable (gd : Nat → Nat → Int) (bd : Nat → Nat → Bool)
/-- The rows of a block. -/
def Ents (n₀ : Nat) (W : World) (b off len : Nat) : Prop := b < n₀ ∧ ∀ k, k < len → W.cell? ⟨b, off + k * 5, none⟩ = some (.bool (bd k 0)) ∧ W.cell? ⟨b, off + k * 5 + 1, none⟩ = some (.int .u32 (gd k 1)) ∧ W.cell? ⟨b, off + k * 5 + 2, none⟩ = some (.int .i64 (gd k 2)) ∧
  W.cell? ⟨b, off + k * 5 + 3, none⟩ = some (.int .i64 (gd k 3)) ∧ W.cell? ⟨b, off + k * 5 + 4, none⟩ = some (.int .i64 (gd k 4))
/-- What has come when k rounds are over: the last, the last but one .. -/
def dn (len k : Nat) : List Nat := (List.range k).map fun j => len - 1 - j
theorem dn_succ (len k : Nat) : dn len (k + 1) = dn len k ++ [len - 1 - k] := by simp [dn, List.range_succ]
theorem dn_length (len k : Nat) : (dn len k).length = k := by simp [dn]
theorem load44 {W : World} {b off len n₀ : Nat} (h : Ents gd bd n₀ W b off len) {k : Nat} (hk : k < len) : (Instr.loadAt 44 (.pointer (some ⟨b, off + k * 5, none⟩))).run Try.prog W = .ok (en gd bd k) W := by
  obtain ⟨h0, h1, h2, h3, h4⟩ := h.2 k hk
  have hc : (loadCellsFrom ⟨b, off + k * 5, none⟩ 0 5 #[]).run Try.prog W = .ok (#[] ++ [Value.bool (bd k 0), .int .u32 (gd k 1), .int .i64 (gd k 2), .int .i64 (gd k 3), .int .i64 (gd k 4)].toArray) W :=
    Ab.run_loadCellsFrom b (off + k * 5) 5 0 #[] _ rfl (fun j v hj => by
      rcases j with _ | _ | _ | _ | _ | j <;> simp at hj <;> subst hj <;> assumption)
  have ha : (Ab.kd Try.prog 44).map (·.isAgg) = some true := by kernel_rfl
  have hn : Ab.tsize Try.prog 44 = some 5 := by kernel_rfl
  cases hk' : Ab.kd Try.prog 44 with
  | none => rw [hk'] at ha; cases ha
  | some d =>
    rw [hk'] at ha
    have ha : d.isAgg = true := by simpa using ha
    simp only [Instr.loadAt, Instr.sureAddr, Sem.run_bind, Sem.run_pure, Result.andThen_ok, loadVar, Ab.run_isAgg W hk', ha, if_true, Ab.run_sizeOf W hn, loadCells, hc]
    rfl
set_option maxRecDepth 100000 in
set_option maxHeartbeats 2000000 in
theorem back1_in (F : Fence) (n : Nat) (h23 : F.fn 23) (hro : F.round = none) (hn : 1 ≤ n) (l Bs n₀ b off len cap : Nat) (hreach : len ≤ 9223372036854775807) (J Jx : List Nat → World → Prop)
    (hY : ∀ (pre : List Nat) (x : Nat) W, J pre W → pre.length < len → YieldAt F (n - 1) Try.prog l #[.int .i64 (x : Int), en gd bd x] W fun e W' =>
      (e = .returned (.bool true) ∧ J (pre ++ [x]) W' ∧ Below n₀ W W') ∨ (e = .returned (.bool false) ∧ Jx (pre ++ [x]) W'))
    (W : World) (hBs : W.cell? ⟨Bs, 0, none⟩ = some (.slice (some ⟨b, off, none⟩) len cap)) (hBl : Bs < n₀) (hE : Ents gd bd n₀ W b off len) (h0 : J [] W) :
    CallsIn F n Try.prog 23 #[.func (.yield l) #[] #[], .pointer (some ⟨Bs, 0, none⟩)] W fun e W' => (∃ v, e = .returned v) ∧
      ((∃ ys, ys = dn len len ∧ J ys W') ∨ (∃ pre, (∃ k, k ≤ len ∧ pre = dn len k) ∧ Jx pre W')) := by
  refine callsIn_of_wp Try.func23 rfl h23 ?_ hro
  simp only [Try.ntmps23, List.size_toArray, List.length_cons, List.length_nil, Nat.reduceAdd, Nat.reduceSub, Array.replicate_succ, Array.replicate_zero, List.push_toArray, List.append_toArray, List.nil_append, List.cons_append]
  gi_wp2
  gi_loopw [3] (fun i wr => ∃ (k : Nat) (i0 : Int), k ≤ len ∧ i = .int .i64 i0 ∧ i0 = (len : Int) - 1 - k ∧ J (dn len k) wr ∧ Below n₀ W wr)
    (fun i _ => (intOf i + 1).toNat)
  case atStart => exact ⟨0, _, Nat.zero_le _, rfl, by omega, h0, Below.refl _ _⟩
  case round =>
    obtain ⟨k, i0, hk, rfl, hi0, hJs, hnx⟩ := hrel
    by_cases hlt : k < len
    · obtain ⟨x, hxk, hds⟩ : ∃ x : Nat, x + k + 1 = len ∧ dn len (k + 1) = dn len k ++ [x] := ⟨len - 1 - k, by omega, dn_succ len k⟩
      obtain ⟨fn, tmps, assign, body, hy, hR⟩ := hY _ x wr hJs (by rw [dn_length]; exact hlt)
      have hBs' := (hnx.cell (p := ⟨Bs, 0, none⟩) hBl).trans hBs
      obtain rfl : i0 = (x : Int) := by omega
      obtain ⟨e0, e1, e2, e3, e4⟩ := hE.2 x (by omega)
      have c0 := (hnx.cell (p := ⟨b, _, none⟩) hE.1).trans e0
      have c1 := (hnx.cell (p := ⟨b, _, none⟩) hE.1).trans e1
      have c2 := (hnx.cell (p := ⟨b, _, none⟩) hE.1).trans e2
      have c3 := (hnx.cell (p := ⟨b, _, none⟩) hE.1).trans e3
      have c4 := (hnx.cell (p := ⟨b, _, none⟩) hE.1).trans e4
      have hxl : x < len := by omega
      clear hi0 e0 e1 e2 e3 e4
      simp only [en] at hy
      gi_wp2
      refine hR.mono ?_
      rintro e W3 (⟨rfl, hJ3, hk3⟩ | ⟨rfl, hJx3⟩)
      · gi_wp2
        go_roundw
        case rel => exact ⟨k + 1, (x : Int) - 1, by omega, rfl, by omega, by rw [hds]; exact hJ3, hnx.trans hk3⟩
        case measure => simp [intOf]
      · gi_wp2
        refine bodyPost_ret (results_none rfl _ _ _) rfl ?_
        exact ⟨⟨_, rfl⟩, .inr ⟨_, ⟨k + 1, by omega, hds.symm⟩, hJx3⟩⟩
    · obtain rfl : i0 = -1 := by omega
      obtain rfl : k = len := by omega
      gi_wp2
      go_end0
      exact ⟨⟨_, rfl⟩, .inl ⟨_, rfl, hJs⟩⟩
/-- The slice value holds the rows, in a block below n₀; or it is nil and there are none. -/
def EntsV (n₀ : Nat) (W : World) (sv : Value) (len : Nat) : Prop :=
  (∃ a c, sv = .slice a 0 c ∧ len = 0) ∨ ∃ b off cap, sv = .slice (some ⟨b, off, none⟩) len cap ∧ Ents gd bd n₀ W b off len
variable {gd bd}
theorem Ents.below {n₀ : Nat} {A B : World} (h : Below n₀ A B) {b off len : Nat} (k : Ents gd bd n₀ A b off len) : Ents gd bd n₀ B b off len :=
  ⟨k.1, fun j hj => by
    obtain ⟨e0, e1, e2, e3, e4⟩ := k.2 j hj
    exact ⟨(h.cell (p := ⟨b, _, none⟩) k.1).trans e0, (h.cell (p := ⟨b, _, none⟩) k.1).trans e1, (h.cell (p := ⟨b, _, none⟩) k.1).trans e2, (h.cell (p := ⟨b, _, none⟩) k.1).trans e3, (h.cell (p := ⟨b, _, none⟩) k.1).trans e4⟩⟩
theorem EntsV.below {n₀ : Nat} {A B : World} (h : Below n₀ A B) {sv : Value} {len : Nat} : EntsV gd bd n₀ A sv len → EntsV gd bd n₀ B sv len
  | .inl e => .inl e
  | .inr ⟨b, off, cap, e, k⟩ => .inr ⟨b, off, cap, e, k.below h⟩
variable (gd bd)
set_option maxRecDepth 100000 in
set_option maxHeartbeats 1000000 in
/-- .. at the nil slice: no round. -/
theorem back1_nil_in (F : Fence) (n : Nat) (h23 : F.fn 23) (hro : F.round = none) (l Bs c : Nat) (a : Option Addr) (J : List Nat → World → Prop) (W : World) (hBs : W.cell? ⟨Bs, 0, none⟩ = some (.slice a 0 c)) (h0 : J [] W) :
    CallsIn F n Try.prog 23 #[.func (.yield l) #[] #[], .pointer (some ⟨Bs, 0, none⟩)] W fun e W' => (∃ v, e = .returned v) ∧ J [] W' := by
  refine callsIn_of_wp Try.func23 rfl h23 ?_ hro
  simp only [Try.ntmps23, List.size_toArray, List.length_cons, List.length_nil, Nat.reduceAdd, Nat.reduceSub, Array.replicate_succ, Array.replicate_zero, List.push_toArray, List.append_toArray, List.nil_append, List.cons_append]
  gi_wp2
  gi_loopw [3] (fun i wr => i = .int .i64 (-1) ∧ J [] wr) (fun _ _ => 0)
  case atStart => exact ⟨rfl, h0⟩
  case round =>
    obtain ⟨rfl, hJs⟩ := hrel
    gi_wp2
    go_end0
    exact ⟨⟨_, rfl⟩, hJs⟩
set_option maxHeartbeats 1000000 in
/-- slices.Backward(s). -/
theorem back_in (F : Fence) (n : Nat) (h20 : F.fn 20) (hro : F.round = none) (a : Option Addr) (len cap : Nat) (w : World) :
    CallsIn F n Try.prog 20 #[.slice a len cap] w fun e w' => e = .returned (.func (.func 23) #[] #[.pointer (some ⟨w.heap.size, 0, none⟩)]) ∧ w' = w.alloc (.cells #[.slice a len cap] 34) := by
  refine callsIn_of_wp Try.func20 rfl h20 ?_ hro
  simp only [Try.ntmps20, List.size_toArray, List.length_cons, List.length_nil, Nat.reduceAdd, Nat.reduceSub, Array.replicate_succ, Array.replicate_zero, List.push_toArray, List.append_toArray, List.nil_append, List.cons_append]
  gi_wp2
  go_ret
  exact ⟨rfl, rfl⟩
theorem back_stops (F : Fence) (n : Nat) (h23 : F.fn 23) (hro : F.round = none) (hn : 1 ≤ n) (Bs n₀ : Nat) (sv : Value) (len : Nat) (hreach : len ≤ 9223372036854775807) (w : World) (hBs : Bs < n₀) (hn₀ : n₀ ≤ w.heap.size)
    (hc : w.cell? ⟨Bs, 0, none⟩ = some sv) (hI : EntsV gd bd n₀ w sv len) :
    SeqStopsK F n Try.prog 23 #[.pointer (some ⟨Bs, 0, none⟩)] (fun x : Nat => #[Value.int .i64 (x : Int), en gd bd x]) (Below n₀) (fun ys => ys = dn len len) (fun pre => ∃ k, k ≤ len ∧ pre = dn len k) len w := fun l J Jx W hW _ _ hY h0 => by
  have hc' := (hW.cell (p := ⟨Bs, 0, none⟩) (Nat.lt_of_lt_of_le hBs hn₀)).trans hc
  rcases hI.below (hW.mono hn₀) with ⟨a, c, rfl, rfl⟩ | ⟨b, off, cap, rfl, hE⟩
  · exact (back1_nil_in F n h23 hro l Bs c a J W hc' h0).mono fun e W' ⟨he, hj⟩ => ⟨he, .inl ⟨_, rfl, hj⟩⟩
  · exact back1_in gd bd F n h23 hro hn l Bs n₀ b off len cap hreach J Jx hY W hc' hBs hE h0
end
end Go.Proofs.Ytnkfeoodbhihcaa.lm
