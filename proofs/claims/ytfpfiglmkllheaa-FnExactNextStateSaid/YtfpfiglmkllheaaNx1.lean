import Derived.Test.YtfpfiglmkllheaaGh
import Derived.Test.YtfpfiglmkllheaaProg
import Derived.Maps.OwnSet
import Derived.WideKeyArgs
import Derived.DeepKeys4
import Derived.WalkKit
namespace Go.Proofs.Ytfpfiglmkllheaa.nx
open Go Go.Ab Go.Proofs Go.Maps Go.RowKit
set_option maxRecDepth 1000000
set_option linter.unusedVariables false
theorem laidOut : laidOutB Try.prog = true := by kernel_rfl
theorem row132 : (132 : TypeId) < Try.prog.types.size := of_decide_eq_true (by kernel_rfl)
theorem wide132 : (match Try.prog.underlying 132 with | some (.array _ _) | some (.struct _) => true | _ => false) = true := by kernel_rfl
theorem deep132 : Try.prog.keyTypeAt 2 132 = true := by kernel_rfl
theorem key : Keyed Try.prog 132 := Keyed.of_law (deep_law_laid laidOut (m := 2) (by omega) row132 deep132 wide132)
theorem zero45 (w : World) : (zeroValue 45).run Try.prog w = .ok (.int .i8 0) w := by kernel_rfl
theorem und127 : Try.prog.underlying 127 = some (.map 132 45) := by kernel_rfl
theorem und45 : Try.prog.underlying 45 = some (.int .i8) := by kernel_rfl
theorem mixed : Try.prog.follows .mixedOrders = true := by kernel_rfl
abbrev U := Unit
/-- A key. -/
def KV (k : Int × Int × Bool) : Value := .agg #[.int .i8 k.1, .int .i8 k.2.1, .bool k.2.2]
theorem KV_inj {k k' : Int × Int × Bool} (h : KV k = KV k') : k = k' := by
  obtain ⟨a, b, c⟩ := k
  obtain ⟨a', b', c'⟩ := k'
  simp [KV] at h
  obtain ⟨rfl, rfl, rfl⟩ := h
  rfl
/-- The rows: the operation that lays one, its key, its element. -/
def rows : List (Nat × (Int × Int × Bool) × Int) := [(2, (1, 2, false), 2), (4, (1, 2, true), 2), (6, (1, 1, false), 0), (8, (2, 0, false), 3), (10, (3, 2, true), 2), (12, (3, 1, false), 0), (14, (3, 1, true), 0)]
noncomputable def R1 : Array Oper := match Try.f90.body with | some (.seq _ (.seq (.region _ o _) _)) => o | _ => #[]
noncomputable def R0 : Array Oper := match Try.f90.body with | some (.seq (.region _ o _) _) => o | _ => #[]
theorem body90 : Try.f90.body = some (.seq (.region 0 R0 false) (.seq (.region 1 R1 true) .ret)) := by kernel_rfl
theorem size1 : R1.size = 17 := by kernel_rfl
def preOf (o : Oper) : List Nat := (o.after.toList.filter fun e => Region.binds .any e).map (·.on)
theorem aft : (R1.toList.zipIdx.all fun p => (preOf p.1).all fun m => Nat.blt m p.2) = true := by kernel_rfl
theorem look_of {i : Nat} {x : Option (Nat × Bool) × Option Nat × Op} {l : List Nat} (h : (R1[i]?.map fun o => ((o.guard, o.dst, o.op), preOf o)) = some (x, l)) : ∃ o, R1[i]? = some o ∧ o.guard = x.1 ∧ o.dst = x.2.1 ∧ o.op = x.2.2 ∧ preOf o = l := by
  cases ho : R1[i]? with
  | none => rw [ho] at h; cases h
  | some o => rw [ho] at h; simp only [Option.map_some, Option.some.injEq, Prod.mk.injEq] at h; obtain ⟨rfl, rfl⟩ := h; exact ⟨o, rfl, rfl, rfl, rfl, rfl⟩

theorem op0 : (R1[0]?.map fun o => ((o.guard, o.dst, o.op), preOf o)) = some ((none, some 1, .makeMap 127 none), []) := by kernel_rfl
theorem op1 : (R1[1]?.map fun o => ((o.guard, o.dst, o.op), preOf o)) = some ((none, some 2, .build 132 #[(0, .const (.int .i8 1)), (1, .const (.int .i8 2)), (2, .const (.bool false))]), []) := by kernel_rfl
theorem op2 : (R1[2]?.map fun o => ((o.guard, o.dst, o.op), preOf o)) = some ((none, none, .insert 127 (.tmp 1) (.tmp 2) (.const (.int .i8 2))), [0, 1]) := by kernel_rfl
theorem op3 : (R1[3]?.map fun o => ((o.guard, o.dst, o.op), preOf o)) = some ((none, some 3, .build 132 #[(0, .const (.int .i8 1)), (1, .const (.int .i8 2)), (2, .const (.bool true))]), []) := by kernel_rfl
theorem op4 : (R1[4]?.map fun o => ((o.guard, o.dst, o.op), preOf o)) = some ((none, none, .insert 127 (.tmp 1) (.tmp 3) (.const (.int .i8 2))), [0, 3]) := by kernel_rfl
theorem op5 : (R1[5]?.map fun o => ((o.guard, o.dst, o.op), preOf o)) = some ((none, some 4, .build 132 #[(0, .const (.int .i8 1)), (1, .const (.int .i8 1)), (2, .const (.bool false))]), []) := by kernel_rfl
theorem op6 : (R1[6]?.map fun o => ((o.guard, o.dst, o.op), preOf o)) = some ((none, none, .insert 127 (.tmp 1) (.tmp 4) (.const (.int .i8 0))), [0, 5]) := by kernel_rfl
theorem op7 : (R1[7]?.map fun o => ((o.guard, o.dst, o.op), preOf o)) = some ((none, some 5, .build 132 #[(0, .const (.int .i8 2)), (1, .const (.int .i8 0)), (2, .const (.bool false))]), []) := by kernel_rfl
theorem op8 : (R1[8]?.map fun o => ((o.guard, o.dst, o.op), preOf o)) = some ((none, none, .insert 127 (.tmp 1) (.tmp 5) (.const (.int .i8 3))), [0, 7]) := by kernel_rfl
theorem op9 : (R1[9]?.map fun o => ((o.guard, o.dst, o.op), preOf o)) = some ((none, some 6, .build 132 #[(0, .const (.int .i8 3)), (1, .const (.int .i8 2)), (2, .const (.bool true))]), []) := by kernel_rfl
theorem op10 : (R1[10]?.map fun o => ((o.guard, o.dst, o.op), preOf o)) = some ((none, none, .insert 127 (.tmp 1) (.tmp 6) (.const (.int .i8 2))), [0, 9]) := by kernel_rfl
theorem op11 : (R1[11]?.map fun o => ((o.guard, o.dst, o.op), preOf o)) = some ((none, some 7, .build 132 #[(0, .const (.int .i8 3)), (1, .const (.int .i8 1)), (2, .const (.bool false))]), []) := by kernel_rfl
theorem op12 : (R1[12]?.map fun o => ((o.guard, o.dst, o.op), preOf o)) = some ((none, none, .insert 127 (.tmp 1) (.tmp 7) (.const (.int .i8 0))), [0, 11]) := by kernel_rfl
theorem op13 : (R1[13]?.map fun o => ((o.guard, o.dst, o.op), preOf o)) = some ((none, some 8, .build 132 #[(0, .const (.int .i8 3)), (1, .const (.int .i8 1)), (2, .const (.bool true))]), []) := by kernel_rfl
theorem op14 : (R1[14]?.map fun o => ((o.guard, o.dst, o.op), preOf o)) = some ((none, none, .insert 127 (.tmp 1) (.tmp 8) (.const (.int .i8 0))), [0, 13]) := by kernel_rfl
theorem op15 : (R1[15]?.map fun o => ((o.guard, o.dst, o.op), preOf o)) = some ((none, some 9, .move (.tmp 1)), [0, 1, 2, 3, 4, 5, 6, 7, 8, 9, 10, 11, 12, 13, 14]) := by kernel_rfl
theorem op16 : (R1[16]?.map fun o => ((o.guard, o.dst, o.op), preOf o)) = some ((none, some 0, .assign (.tmp 9)), [15, 0, 1, 2, 3, 4, 5, 6, 7, 8, 9, 10, 11, 12, 13, 14, 15]) := by kernel_rfl
theorem blr1 {o : Oper} (hop : o.op = .build 132 #[(0, .const (.int .i8 1)), (1, .const (.int .i8 2)), (2, .const (.bool false))]) (a : Act) (w : World) : (execOp a.eval o).run Try.prog w = .ok (.value (KV (1, 2, false))) w := by
  obtain ⟨d, op, t, p, f, g⟩ := o
  cases hop
  kernel_rfl
theorem blr3 {o : Oper} (hop : o.op = .build 132 #[(0, .const (.int .i8 1)), (1, .const (.int .i8 2)), (2, .const (.bool true))]) (a : Act) (w : World) : (execOp a.eval o).run Try.prog w = .ok (.value (KV (1, 2, true))) w := by
  obtain ⟨d, op, t, p, f, g⟩ := o
  cases hop
  kernel_rfl
theorem blr5 {o : Oper} (hop : o.op = .build 132 #[(0, .const (.int .i8 1)), (1, .const (.int .i8 1)), (2, .const (.bool false))]) (a : Act) (w : World) : (execOp a.eval o).run Try.prog w = .ok (.value (KV (1, 1, false))) w := by
  obtain ⟨d, op, t, p, f, g⟩ := o
  cases hop
  kernel_rfl
theorem blr7 {o : Oper} (hop : o.op = .build 132 #[(0, .const (.int .i8 2)), (1, .const (.int .i8 0)), (2, .const (.bool false))]) (a : Act) (w : World) : (execOp a.eval o).run Try.prog w = .ok (.value (KV (2, 0, false))) w := by
  obtain ⟨d, op, t, p, f, g⟩ := o
  cases hop
  kernel_rfl
theorem blr9 {o : Oper} (hop : o.op = .build 132 #[(0, .const (.int .i8 3)), (1, .const (.int .i8 2)), (2, .const (.bool true))]) (a : Act) (w : World) : (execOp a.eval o).run Try.prog w = .ok (.value (KV (3, 2, true))) w := by
  obtain ⟨d, op, t, p, f, g⟩ := o
  cases hop
  kernel_rfl
theorem blr11 {o : Oper} (hop : o.op = .build 132 #[(0, .const (.int .i8 3)), (1, .const (.int .i8 1)), (2, .const (.bool false))]) (a : Act) (w : World) : (execOp a.eval o).run Try.prog w = .ok (.value (KV (3, 1, false))) w := by
  obtain ⟨d, op, t, p, f, g⟩ := o
  cases hop
  kernel_rfl
theorem blr13 {o : Oper} (hop : o.op = .build 132 #[(0, .const (.int .i8 3)), (1, .const (.int .i8 1)), (2, .const (.bool true))]) (a : Act) (w : World) : (execOp a.eval o).run Try.prog w = .ok (.value (KV (3, 1, true))) w := by
  obtain ⟨d, op, t, p, f, g⟩ := o
  cases hop
  kernel_rfl
theorem keys : ((List.range 256).all fun n => (List.range 3).all fun k => (keyOf Try.prog 132 (KV (Int.ofNat n - 128, Int.ofNat k, true))).isSome && (keyOf Try.prog 132 (KV (Int.ofNat n - 128, Int.ofNat k, false))).isSome) = true := by kernel_rfl
theorem keyOf_all {n k : Int} {b : Bool} (h1 : -128 ≤ n) (h2 : n ≤ 127) (h3 : 0 ≤ k) (h4 : k ≤ 2) : ∃ l, keyOf Try.prog 132 (KV (n, k, b)) = some l := by
  have h := List.all_eq_true.1 keys (n + 128).toNat (List.mem_range.2 (by omega))
  have h := List.all_eq_true.1 h k.toNat (List.mem_range.2 (by omega))
  have e1 : Int.ofNat (n + 128).toNat - 128 = n := by have : Int.ofNat (n + 128).toNat = n + 128 := Int.toNat_of_nonneg (by omega); omega
  have e2 : Int.ofNat k.toNat = k := Int.toNat_of_nonneg h3
  rw [e1, e2, Bool.and_eq_true] at h
  cases b with
  | true => exact Option.isSome_iff_exists.1 h.1
  | false => exact Option.isSome_iff_exists.1 h.2
/-- What the table says while the rows are laid. -/
def Tab (listed : Array Bool) (D : DataW U) : Prop := ∀ (k : Int × Int × Bool) (l : Lit), keyOf Try.prog 132 (KV k) = some l →
  (∃ p ∈ rows, listed.getD p.1 false = true ∧ p.2.1 = k ∧ Maps.has D l = true ∧ ∀ z, D.atKey l z = .lit (.int .i8 p.2.2)) ∨ ((∀ p ∈ rows, listed.getD p.1 false = true → p.2.1 ≠ k) ∧ Maps.has D l = false)
theorem rows_key : ∀ p ∈ rows, ∀ q ∈ rows, p.1 = q.1 → p = q := by decide
theorem set_at {listed : Array Bool} {i : Nat} (hi : i < listed.size) (j : Nat) : (listed.setIfInBounds i true).getD j false = if j = i then true else listed.getD j false := by
  by_cases h : j = i
  · subst h; rw [if_pos rfl, Array.getD_eq_getD_getElem?, Array.getElem?_setIfInBounds_self_of_lt hi]; rfl
  · rw [if_neg h, Array.getD_eq_getD_getElem?, Array.getElem?_setIfInBounds_ne (Ne.symm h), ← Array.getD_eq_getD_getElem?]
theorem Tab.put {listed : Array Bool} {D : DataW U} (h : Tab listed D) (hD : IsMap D) {p : Nat × (Int × Int × Bool) × Int} (hp : p ∈ rows) (hi : p.1 < listed.size) (hu : ∀ q ∈ rows, q.2.1 = p.2.1 → q = p) {kl : Lit} (hk : keyOf Try.prog 132 (KV p.2.1) = some kl) : Tab (listed.setIfInBounds p.1 true) (D.put kl (.lit (.int .i8 p.2.2))) := by
  intro k l hl
  by_cases e : l = kl
  · subst e
    have ek : p.2.1 = k := KV_inj (key.inj hk hl)
    exact Or.inl ⟨p, hp, by rw [set_at hi, if_pos rfl], ek, has_put_same hD (key.key hl) _, fun z => atKey_put_same hD (key.key hl) _ z⟩
  · rw [has_put_other e]
    rcases h k l hl with ⟨q, hq, h1, h2, h3, h4⟩ | ⟨h1, h2⟩
    · refine Or.inl ⟨q, hq, ?_, h2, h3, fun z => by rw [atKey_put_other e]; exact h4 z⟩
      rw [set_at hi]; split
      · rfl
      · exact h1
    · refine Or.inr ⟨fun q hq hs hk' => ?_, h2⟩
      rw [set_at hi] at hs
      split at hs
      · rename_i he
        have := rows_key q hq p hp he
        subst this
        rw [hk', hl] at hk
        cases hk
        exact e rfl
      · exact h1 q hq hs hk'
theorem Tab.same {listed : Array Bool} {D : DataW U} (h : Tab listed D) {i : Nat} (hi : i < listed.size) (hn : ∀ p ∈ rows, p.1 ≠ i) : Tab (listed.setIfInBounds i true) D := by
  intro k l hl
  rcases h k l hl with ⟨q, hq, h1, h2⟩ | ⟨h1, h2⟩
  · exact Or.inl ⟨q, hq, by rw [set_at hi, if_neg (hn q hq)]; exact h1, h2⟩
  · exact Or.inr ⟨fun q hq hs => h1 q hq (by rw [set_at hi, if_neg (hn q hq)] at hs; exact hs), h2⟩
theorem rows_uniq : ∀ p ∈ rows, ∀ q ∈ rows, q.2.1 = p.2.1 → q = p := by decide
theorem rows_wf : ∀ p ∈ rows, (Lit.int .i8 p.2.2).wf = true := by decide
/-- The slots: the operation, its slot, its value. -/
def SL (B : Nat) : List (Nat × Nat × Value) := [(0, 1, .map (some B)), (1, 2, KV (1, 2, false)), (3, 3, KV (1, 2, true)), (5, 4, KV (1, 1, false)), (7, 5, KV (2, 0, false)), (9, 6, KV (3, 2, true)), (11, 7, KV (3, 1, false)), (13, 8, KV (3, 1, true)), (15, 9, .map (some B)), (16, 0, .map (some B))]
theorem SL_uniq (B : Nat) : ∀ p ∈ SL B, ∀ q ∈ SL B, p.2.1 = q.2.1 → p.1 = q.1 := by
  intro p hp q hq
  simp only [SL, List.mem_cons, List.not_mem_nil, or_false] at hp hq
  rcases hp with rfl | rfl | rfl | rfl | rfl | rfl | rfl | rfl | rfl | rfl <;> rcases hq with rfl | rfl | rfl | rfl | rfl | rfl | rfl | rfl | rfl | rfl <;> simp
structure I (a0 : Act) (w0 : World) (B : Nat) (listed : Array Bool) (a : Act) (w : World) : Prop where
  sz : a.tmps.size = 10
  df : a.defers = a0.defers
  ls : listed.size = 17
  bel : Below w0.heap.size w0 w
  slot : ∀ p ∈ SL B, listed.getD p.1 false = true → a.tmps.getD p.2.1 undef = p.2.2
  dep : ∀ i, listed.getD i false = true → i ∈ [2, 4, 6, 8, 10, 12, 14, 15, 16] → listed.getD 0 false = true
  map : listed.getD 0 false = true → w0.heap.size ≤ B ∧ ∃ n D, n + listed.toList.count false ≤ 17 ∧ w.ownsMap Try.prog 132 (plainElem Try.prog 45) B n D ∧ Tab listed D
theorem I.put {a0 a : Act} {w0 w : World} {B : Nat} {listed : Array Bool} (h : I a0 w0 B listed a w) {i t : Nat} {v : Value} (hi : (i, t, v) ∈ SL B) : ∀ p ∈ SL B, (listed.setIfInBounds i true).getD p.1 false = true → (a.put (some t) v).tmps.getD p.2.1 undef = p.2.2 := by
  have hil : i < listed.size := by
    rw [h.ls]
    simp only [SL, List.mem_cons, List.not_mem_nil, or_false] at hi
    rcases hi with hi | hi | hi | hi | hi | hi | hi | hi | hi | hi <;> cases hi <;> omega
  have htl : t < a.tmps.size := by
    rw [h.sz]
    simp only [SL, List.mem_cons, List.not_mem_nil, or_false] at hi
    rcases hi with hi | hi | hi | hi | hi | hi | hi | hi | hi | hi <;> cases hi <;> omega
  intro p hp hs
  rw [set_at hil] at hs
  show (a.tmps.setIfInBounds t v).getD p.2.1 undef = p.2.2
  by_cases e : p.1 = i
  · have : p = (i, t, v) := by
      simp only [SL, List.mem_cons, List.not_mem_nil, or_false] at hp hi
      rcases hp with rfl | rfl | rfl | rfl | rfl | rfl | rfl | rfl | rfl | rfl <;> rcases hi with hi | hi | hi | hi | hi | hi | hi | hi | hi | hi <;> cases hi <;> first | rfl | (simp at e)
    subst this
    simp [Array.getD_eq_getD_getElem?, htl]
  · rw [if_neg e] at hs
    have hne : t ≠ p.2.1 := fun e' => e (SL_uniq B p hp _ hi (by simpa using e'.symm))
    rw [Array.getD_eq_getD_getElem?, Array.getElem?_setIfInBounds_ne hne, ← Array.getD_eq_getD_getElem?]
    exact h.slot p hp hs
theorem count_set {listed : Array Bool} {i : Nat} (hi : i < listed.size) (hf : listed.getD i true = false) : (listed.setIfInBounds i true).toList.count false + 1 = listed.toList.count false := by
  rw [Array.getD_eq_getD_getElem?, Array.getElem?_eq_getElem hi] at hf
  have hf : listed[i] = false := hf
  rw [Array.toList_setIfInBounds, List.count_set (by simpa using hi)]
  have h1 : listed.toList[i]'(by simpa using hi) = false := by simpa using hf
  have h2 : 0 < listed.toList.count false := List.count_pos_iff.2 (by rw [← h1]; exact List.getElem_mem _)
  rw [h1]
  have e1 : ((false : Bool) == false) = true := rfl
  have e2 : ((true : Bool) == false) = false := rfl
  rw [e1, e2]
  simp only [if_true, Bool.false_eq_true, if_false]
  omega
/-- An operation that writes a slot and leaves the map. -/
theorem fire_slot {a0 a : Act} {w0 w : World} {B : Nat} {listed : Array Bool} (h : I a0 w0 B listed a w) {i t : Nat} {v : Value} {o : Oper} {Q : Exit → Act → World → Prop} {K : Act → World → Prop} (hi : (i, t, v) ∈ SL B) (h0 : i ≠ 0) (hf : listed.getD i true = false) (hrow : ∀ p ∈ rows, p.1 ≠ i) (hdep : i ∈ [2, 4, 6, 8, 10, 12, 14, 15, 16] → listed.getD 0 false = true)
    (ho : R1[i]? = some o) (hg : o.guard = none) (hd : o.dst = some t) (hrun : (execOp a.eval o).run Try.prog w = .ok (.value v) w) (hK : ∀ a', I a0 w0 B (listed.setIfInBounds i true) a' w → K a' w) : wpOp Try.prog R1 Q i K a w := by
  have hil : i < listed.size := by
    rw [h.ls]
    simp only [SL, List.mem_cons, List.not_mem_nil, or_false] at hi
    rcases hi with hi | hi | hi | hi | hi | hi | hi | hi | hi | hi <;> cases hi <;> omega
  unfold wpOp
  rw [ho]
  simp only
  rw [if_pos (by simp [Region.wanted, hg])]
  left
  unfold Oper.wp
  rw [hrun, Oper.upon_value, hd]
  refine hK _ ⟨by rw [act_put_sz]; exact h.sz, by rw [act_put_df]; exact h.df, by simp [h.ls], h.bel, h.put hi, fun j hj hm => ?_, fun hl => ?_⟩
  · rw [set_at hil] at hj ⊢
    rw [if_neg (Ne.symm h0)]
    split at hj
    · rename_i e; subst e; exact hdep hm
    · exact h.dep j hj hm
  · rw [set_at hil, if_neg (Ne.symm h0)] at hl
    obtain ⟨hB, n, D, hn, hown, htab⟩ := h.map hl
    have := count_set hil hf
    exact ⟨hB, n, D, by omega, hown, htab.same hil hrow⟩
/-- The map is made. -/
theorem fire_make {a0 a : Act} {w0 w : World} {B : Nat} {listed : Array Bool} (h : I a0 w0 B listed a w) {o : Oper} {Q : Exit → Act → World → Prop} {K : Act → World → Prop} (hf : listed.getD 0 true = false) (ho : R1[0]? = some o) (hg : o.guard = none) (hd : o.dst = some 1) (hop : o.op = .makeMap 127 none)
    (hK : ∀ a', I a0 w0 w.heap.size (listed.setIfInBounds 0 true) a' (w.alloc (.map #[] 0)) → K a' (w.alloc (.map #[] 0))) : wpOp Try.prog R1 Q 0 K a w := by
  have hil : 0 < listed.size := by rw [h.ls]; omega
  have hf0 : listed.getD 0 false = false := by rw [Array.getD_eq_getD_getElem?, Array.getElem?_eq_getElem hil] at hf ⊢; exact hf
  have hno : ∀ i, i ∈ [2, 4, 6, 8, 10, 12, 14, 15, 16] → listed.getD i false = false := fun i hi => by
    cases hc : listed.getD i false with
    | false => rfl
    | true => have := h.dep i hc hi; rw [hf0] at this; cases this
  unfold wpOp
  rw [ho]
  simp only
  rw [if_pos (by simp [Region.wanted, hg])]
  left
  unfold Oper.wp
  have hrun : (execOp a.eval o).run Try.prog w = .ok (.value (.map (some w.heap.size))) (w.alloc (.map #[] 0)) := by
    obtain ⟨d, op, t, p, f, g⟩ := o
    cases hop
    rfl
  rw [hrun, Oper.upon_value, hd]
  -- what was written before speaks of no map
  have h' : I a0 w0 w.heap.size listed a w := ⟨h.sz, h.df, h.ls, h.bel, fun p hp hs => by
    have hp' := hp
    simp only [SL, List.mem_cons, List.not_mem_nil, or_false] at hp
    rcases hp with rfl | rfl | rfl | rfl | rfl | rfl | rfl | rfl | rfl | rfl
    · rw [hf0] at hs; cases hs
    all_goals first
      | (have := hno 15 (by simp); simp only at hs; rw [this] at hs; cases hs)
      | (have := hno 16 (by simp); simp only at hs; rw [this] at hs; cases hs)
      | exact h.slot _ (by simp [SL]) hs, h.dep, fun hl => by rw [hf0] at hl; cases hl⟩
  refine hK _ ⟨by rw [act_put_sz]; exact h.sz, by rw [act_put_df]; exact h.df, by simp [h.ls], h.bel.alloc h.bel.size _, h'.put (by simp [SL]), fun j hj hm => by rw [set_at hil, if_pos rfl], fun hl => ?_⟩
  refine ⟨h.bel.size, 0, .map [], ?_, World.ownsMap_made _ _ _ _, fun k l hl => Or.inr ⟨fun p hp hs => ?_, rfl⟩⟩
  · have := List.count_le_length (a := false) (l := (listed.setIfInBounds 0 true).toList)
    rw [Array.length_toList, Array.size_setIfInBounds, h.ls] at this
    omega
  · rw [set_at hil] at hs
    exfalso
    simp only [rows, List.mem_cons, List.not_mem_nil, or_false] at hp
    rcases hp with rfl | rfl | rfl | rfl | rfl | rfl | rfl <;> · rw [if_neg (by decide), hno _ (by simp)] at hs; cases hs
/-- A row is laid. -/
theorem fire_row {a0 a : Act} {w0 w : World} {B : Nat} {listed : Array Bool} (h : I a0 w0 B listed a w) {p : Nat × (Int × Int × Bool) × Int} (hp : p ∈ rows) {t : Nat} {o : Oper} {Q : Exit → Act → World → Prop} {K : Act → World → Prop} (hf : listed.getD p.1 true = false) (h0 : listed.getD 0 false = true) (hs : (p.1 - 1, t, KV p.2.1) ∈ SL B) (hl : listed.getD (p.1 - 1) false = true)
    (hns : ∀ q ∈ SL B, q.1 ≠ p.1) (ho : R1[p.1]? = some o) (hg : o.guard = none) (hd : o.dst = none) (hop : o.op = .insert 127 (.tmp 1) (.tmp t) (.const (.int .i8 p.2.2)))
    (hkl : ∃ l, keyOf Try.prog 132 (KV p.2.1) = some l) (hK : ∀ w', I a0 w0 B (listed.setIfInBounds p.1 true) a w' → K a w') : wpOp Try.prog R1 Q p.1 K a w := by
  have hil : p.1 < listed.size := by
    rw [h.ls]
    simp only [rows, List.mem_cons, List.not_mem_nil, or_false] at hp
    rcases hp with rfl | rfl | rfl | rfl | rfl | rfl | rfl <;> decide
  have hp0 : p.1 ≠ 0 := by
    simp only [rows, List.mem_cons, List.not_mem_nil, or_false] at hp
    rcases hp with rfl | rfl | rfl | rfl | rfl | rfl | rfl <;> decide
  obtain ⟨hB, n, D, hn, hown, htab⟩ := h.map h0
  obtain ⟨kl, hkl⟩ := hkl
  have hm : a.tmps.getD 1 undef = .map (some B) := h.slot (0, 1, .map (some B)) (by simp [SL]) h0
  have hx : a.tmps.getD t undef = KV p.2.1 := h.slot _ hs hl
  obtain ⟨w', hrun, r1, r2⟩ := hown.update key und127 (Nat.lt_of_le_of_lt (by omega : n ≤ 17) (by decide)) hkl (plainElem_int und45 (rows_wf p hp))
  unfold wpOp
  rw [ho]
  simp only
  rw [if_pos (by simp [Region.wanted, hg])]
  left
  unfold Oper.wp
  have hrun' : (execOp a.eval o).run Try.prog w = .ok .skip w' := by
    simp [execOp, hop, Act.eval, hm, hx, hrun, Result.andThen]
  rw [hrun', Oper.upon_skip, hd]
  have hD : IsMap D := by obtain ⟨es, c, _, _, _, e⟩ := hown; exact ⟨_, e⟩
  have hc := count_set hil hf
  refine hK _ ⟨h.sz, h.df, by simp [h.ls], h.bel.grown r2 h.bel.size (fun k hk => by cases hk; exact hB), fun q hq hs => ?_, fun j hj hm => by rw [set_at hil, if_neg (Ne.symm hp0)]; exact h0, fun _ => ⟨hB, n + 1, _, by omega, r1, htab.put hD hp hil (rows_uniq p hp) hkl⟩⟩
  rw [set_at hil, if_neg (hns q hq)] at hs
  exact h.slot q hq hs

theorem pre_listed {listed : Array Bool} {o : Oper} (hpre : ∀ e ∈ o.after, Region.binds .any e = true → listed.getD e.on false = true) {l : List Nat} (h : preOf o = l) : ∀ m ∈ l, listed.getD m false = true := by
  intro m hm
  rw [← h] at hm
  unfold preOf at hm
  obtain ⟨e, he, rfl⟩ := List.mem_map.1 hm
  obtain ⟨h1, h2⟩ := List.mem_filter.1 he
  exact hpre e (by simpa using h1) h2
theorem all_listed {listed : Array Bool} (hls : listed.size = 17) (hr : Region.ready .any R1 listed = []) : ∀ i, i < 17 → listed.getD i false = true := by
  intro i
  induction i using Nat.strongRecOn with
  | _ i ih =>
    intro hi
    cases hc : listed.getD i false with
    | true => rfl
    | false =>
      exfalso
      have hil : i < R1.size := by rw [size1]; exact hi
      have : i ∈ Region.ready .any R1 listed := by
        refine mem_ready.2 ⟨?_, R1[i], by simp [hil], fun e he hb => ?_⟩
        · rw [Array.getD_eq_getD_getElem?, Array.getElem?_eq_getElem (by omega)] at hc ⊢; exact hc
        · have h1 := List.all_eq_true.1 aft (R1[i], i) (by rw [List.mk_mem_zipIdx_iff_getElem?]; simp [hil])
          have h2 := List.all_eq_true.1 h1 e.on (List.mem_map.2 ⟨e, List.mem_filter.2 ⟨by simpa using he, hb⟩, rfl⟩)
          have h3 : e.on < i := by simpa [Nat.blt_eq] using h2
          exact ih e.on h3 (by omega)
      rw [hr] at this; cases this
theorem reg1 {a0 : Act} {w0 : World} {Q : Exit → Act → World → Prop} (hQ : ∀ B listed a w, I a0 w0 B listed a w → (∀ i, i < 17 → listed.getD i false = true) → Q .normal a w) :
    ∀ (fuel : Nat) (B : Nat) (listed : Array Bool) (a : Act) (w : World), I a0 w0 B listed a w → listed.toList.count false = fuel → wpAny Try.prog .any R1 Q fuel listed a w := by
  intro fuel
  induction fuel with
  | zero =>
    intro B listed a w h hc
    have hall : ∀ i, i < 17 → listed.getD i false = true := by
      intro i hi
      have hil : i < listed.size := by rw [h.ls]; exact hi
      cases he : listed.getD i false with
      | true => rfl
      | false =>
        exfalso
        have hm : false ∈ listed.toList := by
          rw [Array.mem_toList_iff]
          rw [Array.getD_eq_getD_getElem?, Array.getElem?_eq_getElem hil] at he
          have he : listed[i] = false := he
          rw [← he]; exact Array.getElem_mem hil
        have := List.count_pos_iff.2 hm
        omega
    refine ⟨?_, hQ B listed a w h hall⟩
    rw [List.eq_nil_iff_forall_not_mem]
    intro j hj
    obtain ⟨h1, o, h2, _⟩ := mem_ready.1 hj
    have hlt : j < 17 := by have := (Array.getElem?_eq_some_iff.1 h2).1; rw [size1] at this; exact this
    have hil : j < listed.size := by rw [h.ls]; exact hlt
    have := hall j hlt
    rw [Array.getD_eq_getD_getElem?, Array.getElem?_eq_getElem hil] at this h1
    have this : listed[j] = true := this
    have h1 : listed[j] = false := h1
    rw [this] at h1; cases h1
  | succ fuel ih =>
    intro B listed a w h hc
    refine ⟨fun hr => hQ B listed a w h (all_listed h.ls hr), fun i hi => ?_⟩
    obtain ⟨hf, oo, hoo, hpre⟩ := mem_ready.1 hi
    have hlt : i < 17 := by have := (Array.getElem?_eq_some_iff.1 hoo).1; rw [size1] at this; exact this
    have hil : i < listed.size := by rw [h.ls]; exact hlt
    have hnext : ∀ B' a' w', I a0 w0 B' (listed.setIfInBounds i true) a' w' → wpAny Try.prog .any R1 Q fuel (listed.setIfInBounds i true) a' w' := fun B' a' w' h' => ih B' _ a' w' h' (by have := count_set hil hf; omega)
    have hcase : i = 0 ∨ i = 1 ∨ i = 2 ∨ i = 3 ∨ i = 4 ∨ i = 5 ∨ i = 6 ∨ i = 7 ∨ i = 8 ∨ i = 9 ∨ i = 10 ∨ i = 11 ∨ i = 12 ∨ i = 13 ∨ i = 14 ∨ i = 15 ∨ i = 16 := by omega
    rcases hcase with rfl | rfl | rfl | rfl | rfl | rfl | rfl | rfl | rfl | rfl | rfl | rfl | rfl | rfl | rfl | rfl | rfl
    · obtain ⟨o, ho, hg, hd, hop, hpr⟩ := look_of op0
      obtain rfl : o = oo := Option.some.inj (ho.symm.trans hoo)
      have hpl := pre_listed hpre hpr
      exact fire_make h hf ho hg hd hop (fun a2 h2 => hnext _ a2 _ h2)
    · obtain ⟨o, ho, hg, hd, hop, hpr⟩ := look_of op1
      obtain rfl : o = oo := Option.some.inj (ho.symm.trans hoo)
      have hpl := pre_listed hpre hpr
      exact fire_slot h (t := 2) (v := KV (1, 2, false)) (by simp [SL]) (by decide) hf (by simp [rows]) (fun hx => by simp at hx) ho hg hd (blr1 hop a w) (fun a2 h2 => hnext _ a2 _ h2)
    · obtain ⟨o, ho, hg, hd, hop, hpr⟩ := look_of op2
      obtain rfl : o = oo := Option.some.inj (ho.symm.trans hoo)
      have hpl := pre_listed hpre hpr
      exact fire_row h (p := (2, (1, 2, false), 2)) (by simp [rows]) (t := 2) hf (hpl 0 (by simp)) (by simp [SL]) (hpl 1 (by simp)) (by simp [SL]) ho hg hd hop (keyOf_all (by decide) (by decide) (by decide) (by decide)) (fun w2 h2 => hnext _ _ w2 h2)
    · obtain ⟨o, ho, hg, hd, hop, hpr⟩ := look_of op3
      obtain rfl : o = oo := Option.some.inj (ho.symm.trans hoo)
      have hpl := pre_listed hpre hpr
      exact fire_slot h (t := 3) (v := KV (1, 2, true)) (by simp [SL]) (by decide) hf (by simp [rows]) (fun hx => by simp at hx) ho hg hd (blr3 hop a w) (fun a2 h2 => hnext _ a2 _ h2)
    · obtain ⟨o, ho, hg, hd, hop, hpr⟩ := look_of op4
      obtain rfl : o = oo := Option.some.inj (ho.symm.trans hoo)
      have hpl := pre_listed hpre hpr
      exact fire_row h (p := (4, (1, 2, true), 2)) (by simp [rows]) (t := 3) hf (hpl 0 (by simp)) (by simp [SL]) (hpl 3 (by simp)) (by simp [SL]) ho hg hd hop (keyOf_all (by decide) (by decide) (by decide) (by decide)) (fun w2 h2 => hnext _ _ w2 h2)
    · obtain ⟨o, ho, hg, hd, hop, hpr⟩ := look_of op5
      obtain rfl : o = oo := Option.some.inj (ho.symm.trans hoo)
      have hpl := pre_listed hpre hpr
      exact fire_slot h (t := 4) (v := KV (1, 1, false)) (by simp [SL]) (by decide) hf (by simp [rows]) (fun hx => by simp at hx) ho hg hd (blr5 hop a w) (fun a2 h2 => hnext _ a2 _ h2)
    · obtain ⟨o, ho, hg, hd, hop, hpr⟩ := look_of op6
      obtain rfl : o = oo := Option.some.inj (ho.symm.trans hoo)
      have hpl := pre_listed hpre hpr
      exact fire_row h (p := (6, (1, 1, false), 0)) (by simp [rows]) (t := 4) hf (hpl 0 (by simp)) (by simp [SL]) (hpl 5 (by simp)) (by simp [SL]) ho hg hd hop (keyOf_all (by decide) (by decide) (by decide) (by decide)) (fun w2 h2 => hnext _ _ w2 h2)
    · obtain ⟨o, ho, hg, hd, hop, hpr⟩ := look_of op7
      obtain rfl : o = oo := Option.some.inj (ho.symm.trans hoo)
      have hpl := pre_listed hpre hpr
      exact fire_slot h (t := 5) (v := KV (2, 0, false)) (by simp [SL]) (by decide) hf (by simp [rows]) (fun hx => by simp at hx) ho hg hd (blr7 hop a w) (fun a2 h2 => hnext _ a2 _ h2)
    · obtain ⟨o, ho, hg, hd, hop, hpr⟩ := look_of op8
      obtain rfl : o = oo := Option.some.inj (ho.symm.trans hoo)
      have hpl := pre_listed hpre hpr
      exact fire_row h (p := (8, (2, 0, false), 3)) (by simp [rows]) (t := 5) hf (hpl 0 (by simp)) (by simp [SL]) (hpl 7 (by simp)) (by simp [SL]) ho hg hd hop (keyOf_all (by decide) (by decide) (by decide) (by decide)) (fun w2 h2 => hnext _ _ w2 h2)
    · obtain ⟨o, ho, hg, hd, hop, hpr⟩ := look_of op9
      obtain rfl : o = oo := Option.some.inj (ho.symm.trans hoo)
      have hpl := pre_listed hpre hpr
      exact fire_slot h (t := 6) (v := KV (3, 2, true)) (by simp [SL]) (by decide) hf (by simp [rows]) (fun hx => by simp at hx) ho hg hd (blr9 hop a w) (fun a2 h2 => hnext _ a2 _ h2)
    · obtain ⟨o, ho, hg, hd, hop, hpr⟩ := look_of op10
      obtain rfl : o = oo := Option.some.inj (ho.symm.trans hoo)
      have hpl := pre_listed hpre hpr
      exact fire_row h (p := (10, (3, 2, true), 2)) (by simp [rows]) (t := 6) hf (hpl 0 (by simp)) (by simp [SL]) (hpl 9 (by simp)) (by simp [SL]) ho hg hd hop (keyOf_all (by decide) (by decide) (by decide) (by decide)) (fun w2 h2 => hnext _ _ w2 h2)
    · obtain ⟨o, ho, hg, hd, hop, hpr⟩ := look_of op11
      obtain rfl : o = oo := Option.some.inj (ho.symm.trans hoo)
      have hpl := pre_listed hpre hpr
      exact fire_slot h (t := 7) (v := KV (3, 1, false)) (by simp [SL]) (by decide) hf (by simp [rows]) (fun hx => by simp at hx) ho hg hd (blr11 hop a w) (fun a2 h2 => hnext _ a2 _ h2)
    · obtain ⟨o, ho, hg, hd, hop, hpr⟩ := look_of op12
      obtain rfl : o = oo := Option.some.inj (ho.symm.trans hoo)
      have hpl := pre_listed hpre hpr
      exact fire_row h (p := (12, (3, 1, false), 0)) (by simp [rows]) (t := 7) hf (hpl 0 (by simp)) (by simp [SL]) (hpl 11 (by simp)) (by simp [SL]) ho hg hd hop (keyOf_all (by decide) (by decide) (by decide) (by decide)) (fun w2 h2 => hnext _ _ w2 h2)
    · obtain ⟨o, ho, hg, hd, hop, hpr⟩ := look_of op13
      obtain rfl : o = oo := Option.some.inj (ho.symm.trans hoo)
      have hpl := pre_listed hpre hpr
      exact fire_slot h (t := 8) (v := KV (3, 1, true)) (by simp [SL]) (by decide) hf (by simp [rows]) (fun hx => by simp at hx) ho hg hd (blr13 hop a w) (fun a2 h2 => hnext _ a2 _ h2)
    · obtain ⟨o, ho, hg, hd, hop, hpr⟩ := look_of op14
      obtain rfl : o = oo := Option.some.inj (ho.symm.trans hoo)
      have hpl := pre_listed hpre hpr
      exact fire_row h (p := (14, (3, 1, true), 0)) (by simp [rows]) (t := 8) hf (hpl 0 (by simp)) (by simp [SL]) (hpl 13 (by simp)) (by simp [SL]) ho hg hd hop (keyOf_all (by decide) (by decide) (by decide) (by decide)) (fun w2 h2 => hnext _ _ w2 h2)
    · obtain ⟨o, ho, hg, hd, hop, hpr⟩ := look_of op15
      obtain rfl : o = oo := Option.some.inj (ho.symm.trans hoo)
      have hpl := pre_listed hpre hpr
      have hm : a.tmps.getD 1 undef = .map (some B) := h.slot (0, 1, .map (some B)) (by simp [SL]) (hpl 0 (by simp))
      exact fire_slot h (t := 9) (v := .map (some B)) (by simp [SL]) (by decide) hf (by simp [rows]) (fun _ => hpl 0 (by simp)) ho hg hd (by simp [execOp, hop, Act.eval, hm]) (fun a2 h2 => hnext _ a2 _ h2)
    · obtain ⟨o, ho, hg, hd, hop, hpr⟩ := look_of op16
      obtain rfl : o = oo := Option.some.inj (ho.symm.trans hoo)
      have hpl := pre_listed hpre hpr
      have hm : a.tmps.getD 9 undef = .map (some B) := h.slot (15, 9, .map (some B)) (by simp [SL]) (hpl 15 (by simp))
      exact fire_slot h (t := 0) (v := .map (some B)) (by simp [SL]) (by decide) hf (by simp [rows]) (fun _ => hpl 0 (by simp)) ho hg hd (by simp [execOp, hop, Act.eval, hm]) (fun a2 h2 => hnext _ a2 _ h2)
/-- What the table says. -/
def TabA (D : DataW U) : Prop := ∀ (k : Int × Int × Bool) (l : Lit), keyOf Try.prog 132 (KV k) = some l → (∃ p ∈ rows, p.2.1 = k ∧ Maps.has D l = true ∧ ∀ z, D.atKey l z = .lit (.int .i8 p.2.2)) ∨ ((∀ p ∈ rows, p.2.1 ≠ k) ∧ Maps.has D l = false)
/-- The table: its map is new, and says what the rows say. -/
theorem turns_any (w : World) : Calls Try.prog 90 #[] w fun e w' => ∃ (B n : Nat) (D : DataW U), e = .returned (.map (some B)) ∧ Below w.heap.size w w' ∧ w'.ownsMap Try.prog 132 (plainElem Try.prog 45) B n D ∧ TabA D := by
  go_enter Try.func90, Try.ntmps90
  change Code.wp Try.prog (.seq (.region 0 R0 false) (.seq (.region 1 R1 true) .ret)) _ _ _
  refine wp_seq ?_
  have h0 : (Code.region 0 R0 false).wp Try.prog (fun e a w' => e = .normal ∧ a.tmps.size = 10 ∧ a.defers = [] ∧ w' = w) { tmps := #[undef, undef, undef, undef, undef, undef, undef, undef, undef, undef], defers := [] } w := by
    change Code.wp Try.prog (Code.region 0 #[{ dst := some 0, op := Op.assign (Operand.const (Value.map none)), type := 127, pos := "l02_stoves.go:350", after := #[], guard := none }] false) _ _ _
    go_wp2
  refine wp_mono h0 ?_
  rintro e a w' ⟨rfl, hsz, hdf, rfl⟩
  refine wp_seq (wp_region_any mixed ?_)
  have hls : (Array.replicate R1.size false).size = 17 := by rw [Array.size_replicate, size1]
  have hno : ∀ i, (Array.replicate R1.size false).getD i false = false := fun i => by
    rw [Array.getD_eq_getD_getElem?, Array.getElem?_replicate]; split <;> rfl
  refine reg1 (a0 := a) (w0 := w') ?_ _ 0 _ _ _ ⟨hsz, rfl, hls, (Below.refl _ _).drew, fun p hp hs => (by rw [hno] at hs; cases hs), fun i hs => (by rw [hno] at hs; cases hs), fun hs => (by rw [hno] at hs; cases hs)⟩ (by simp)
  intro B listed a2 w2 h hall
  obtain ⟨hB, n, D, hn, hown, htab⟩ := h.map (hall 0 (by omega))
  refine wp_ret ?_
  have hres : a2.tmps.getD 0 undef = .map (some B) := h.slot (16, 0, .map (some B)) (by simp [SL]) (hall 16 (by omega))
  refine ⟨h.df.trans hdf, _, results_tmp (t := 0) (by kernel_rfl) _ _ _, B, n, D, by rw [hres], h.bel, hown, fun k l hl => ?_⟩
  rcases htab k l hl with ⟨p, hp, _, h2⟩ | ⟨h1, h2⟩
  · exact Or.inl ⟨p, hp, h2⟩
  · refine Or.inr ⟨fun p hp => h1 p hp (hall p.1 ?_), h2⟩
    simp only [rows, List.mem_cons, List.not_mem_nil, or_false] at hp
    rcases hp with rfl | rfl | rfl | rfl | rfl | rfl | rfl <;> decide

end Go.Proofs.Ytfpfiglmkllheaa.nx
