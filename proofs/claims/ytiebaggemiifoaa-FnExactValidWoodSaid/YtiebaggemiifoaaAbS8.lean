import Derived.Test.YtiebaggemiifoaaAbS7
namespace Go.Ab
open Go Go.RowKit

section
variable {P : Program} {ρ : Rho} {o : Oper} {a : Act} {S : St} {M : Addr → Prop} {w0 w : World}

/-- ONE OPERATION, of those that the evaluator knows. -/
theorem evOp_sound {Γ : List (Nat × Ctr)} (hΓ : ∀ f c, lookC f Γ = some c → Sat P f c) {out : Out} (he : evOp P Γ S o.op = some out) (hM : Mem M w0 ρ S w)
    (hops : ∀ x ∈ o.op.operands.toList, V ρ (opd S x) (a.eval x)) : OpOk P o a S w M w0 ρ out := by
  generalize hop : o.op = op at he hops
  cases op <;> simp only [evOp] at he <;> try (cases he; done)
  case move x =>
    cases he
    exact OpOk.pure0 w hM (by unfold execOp; rw [hop]; rfl) (hops x (by simp [Op.operands]))
  case assign x =>
    cases he
    exact OpOk.pure0 w hM (by unfold execOp; rw [hop]; rfl) (hops x (by simp [Op.operands]))
  case pick c x y =>
    have hc := hops c (by simp [Op.operands])
    have hx := hops x (by simp [Op.operands])
    have hy := hops y (by simp [Op.operands])
    split at he
    · rename_i h; rw [h] at hc; unfold V at hc; cases he
      exact OpOk.pure0 w hM (by unfold execOp; rw [hop]; simp [hc, asBool]) hx
    · rename_i h; rw [h] at hc; unfold V at hc; cases he
      exact OpOk.pure0 w hM (by unfold execOp; rw [hop]; simp [hc, asBool]) hy
    · rename_i b h; rw [h] at hc; unfold V at hc; cases he
      refine OpOk.pure0 (u := if b then a.eval x else a.eval y) w hM (by unfold execOp; rw [hop]; simp [hc, asBool]) (mergeV_sound b _ _ _ ?_)
      cases b
      · simpa using hy
      · simpa using hx
    · cases he
  case alloc t =>
    split at he
    · rename_i z hz; cases he
      intro next Q hn
      unfold Oper.wp
      have hrun : (execOp a.eval o).run P w = .ok (.value (.pointer (some ⟨w.heap.size, 0, none⟩))) (w.alloc (.cells z.cells t)) := by
        unfold execOp; rw [hop]
        simp [Instr.alloc, run_zeroValue w hz, newVar, newRow]
      rw [hrun, Oper.upon_value]
      obtain ⟨hext, hmem⟩ := hM.alloc t (xs := absC z.cells.toList) (vs := z.cells) (VL_absC ρ _)
      refine hn _ _ _ hext ?_ hmem
      unfold V
      exact ⟨_, 0, by unfold upd; rw [if_pos rfl], rfl⟩
    · cases he
  case box t x =>
    split at he
    · rename_i cs hcs; cases he
      intro next Q hn
      unfold Oper.wp
      have hrun : (execOp a.eval o).run P w = .ok (.value (.pointer (some ⟨w.heap.size, 0, none⟩))) (w.alloc (.cells (a.eval x).cells t)) := by
        unfold execOp; rw [hop]
        simp [Instr.box, newVar, newRow]
      rw [hrun, Oper.upon_value]
      obtain ⟨hext, hmem⟩ := hM.alloc t (xs := cs) (vs := (a.eval x).cells) (cellsO_sound hcs (hops x (by simp [Op.operands])))
      refine hn _ _ _ hext ?_ hmem
      unfold V
      exact ⟨_, 0, by unfold upd; rw [if_pos rfl], rfl⟩
    · cases he
  case build t parts =>
    have hparts : ∀ p ∈ parts.toList, V ρ (opd S p.2) (a.eval p.2) := fun p hp => hops p.2 (by
      simp only [Op.operands]
      exact List.mem_map_of_mem hp)
    have hmap : (parts.map fun (p : Nat × Operand) => (p.1, a.eval p.2)).toList = parts.toList.map fun p => (p.1, a.eval p.2) := by simp
    split at he
    · rename_i z fs hz hk
      split at he
      · rename_i pl hpl
        split at he
        · rename_i cs hcs; cases he
          obtain ⟨res, h1, h2⟩ := fillG_sound (ρ := ρ) (a := a) parts.toList _ z.cells cs hparts (VL_absC ρ _) hcs
          refine OpOk.pure0 (u := .agg res) w hM ?_ (by unfold V; exact ⟨res.toList, rfl, h2⟩)
          unfold execOp; rw [hop]
          obtain ⟨i, hi, hiz⟩ := tzero_info hz
          have hb : P.built t (parts.map fun (p : Nat × Operand) => (p.1, a.eval p.2)).toList = some res := by
            unfold Program.built
            rw [hi, kd_struct hk, hmap]
            simp only [hiz, plcs_mapM fs pl hpl]
            rw [← h1]
            congr 1
            funext j
            simp [nthP_get]
          have := run_build w t (parts.map fun (p : Nat × Operand) => (p.1, a.eval p.2)) res hb
          simp [this]
        · cases he
      · cases he
    · rename_i z n e hz hk
      split at he
      · rename_i sz hsz
        split at he
        · rename_i cs hcs; cases he
          obtain ⟨res, h1, h2⟩ := fillG_sound (ρ := ρ) (a := a) parts.toList _ z.cells cs hparts (VL_absC ρ _) hcs
          refine OpOk.pure0 (u := .agg res) w hM ?_ (by unfold V; exact ⟨res.toList, rfl, h2⟩)
          unfold execOp; rw [hop]
          obtain ⟨i, hi, hiz⟩ := tzero_info hz
          obtain ⟨ie, hie, hies⟩ := tsize_info hsz
          have hb : P.built t (parts.map fun (p : Nat × Operand) => (p.1, a.eval p.2)).toList = some res := by
            unfold Program.built
            rw [hi, kd_arr hk, hmap]
            simp only [hiz, hie, hies]
            exact h1
          have := run_build w t (parts.map fun (p : Nat × Operand) => (p.1, a.eval p.2)) res hb
          simp [this]
        · cases he
      · cases he
    · cases he
  case load t x =>
    have hx := hops x (by simp [Op.operands])
    split at he
    · rename_i i off hp
      rw [hp] at hx; unfold V at hx
      obtain ⟨r, b, hr, hxe⟩ := hx
      split at he
      · rename_i k n hk hn
        obtain ⟨l1, l2⟩ := run_loadAt (P := P) w (o := off) hM.hp hk hn hr
        split at he
        · rename_i ha
          split at he
          · rename_i cs hcs; cases he
            obtain ⟨vs, h1, h2⟩ := l1 cs ha hcs
            exact OpOk.pure0 (u := .agg ⟨vs⟩) w hM (by unfold execOp; rw [hop]; simp [hxe, h1]) (by unfold V; exact ⟨vs, rfl, h2⟩)
          · cases he
        · rename_i ha
          split at he
          · rename_i v hv; cases he
            obtain ⟨u, h1, h2⟩ := l2 v ha hv
            exact OpOk.pure0 (u := u) w hM (by unfold execOp; rw [hop]; simp [hxe, h1]) h2
          · cases he
      · cases he
    · cases he
  case store t x y =>
    have hx := hops x (by simp [Op.operands])
    have hy := hops y (by simp [Op.operands])
    split at he
    · rename_i i off hp
      rw [hp] at hx; unfold V at hx
      obtain ⟨r, b, hr, hxe⟩ := hx
      split at he
      · rename_i n cs hn hcs
        split at he
        · rename_i hb
          simp only [Bool.and_eq_true] at hb
          obtain ⟨⟨⟨hb1, hb2⟩, hb3⟩, hb4⟩ := hb
          have hb1 := Nat.eq_of_beq_eq_true hb1
          have hb3 := Nat.le_of_ble_eq_true hb3
          cases he
          have hvl := cellsO_sound hcs hy
          obtain ⟨w', hrun, hmem⟩ := hM.store (P := P) (o := off) hr hb2 (by omega) hvl hb4
          have hlen : (a.eval y).cells.size = n := by rw [← Array.length_toList, VL_length _ _ hvl]; exact hb1
          have hex : (execOp a.eval o).run P w = .ok .skip w' := by
            unfold execOp; rw [hop]
            simp [hxe, Instr.storeAt, Instr.sureAddr, storeVar, run_sizeOf w hn, hlen, hrun]
          intro next Q hnext
          unfold Oper.wp
          rw [hex, Oper.upon_skip]
          exact hnext undef w' ρ (Ext.refl _) (by unfold V; rfl) hmem
        · cases he
      · cases he
    · cases he
  case nilCheck x =>
    have hx := hops x (by simp [Op.operands])
    split at he
    · rename_i i off hp
      rw [hp] at hx
      cases he
      have hx0 := hx
      unfold V at hx
      obtain ⟨r, b, hr, hxe⟩ := hx
      exact OpOk.pure0 (u := a.eval x) w hM (by unfold execOp; rw [hop]; simp [hxe]) hx0
    · cases he
  case binOp op t x y t' =>
    split at he
    · rename_i z hz; cases he
      obtain ⟨r, w', h1, h2, h3, h4⟩ := evBin_sound (P := P) w hz (hops x (by simp [Op.operands])) (hops y (by simp [Op.operands]))
      exact OpOk.pure (u := r) w hM h3 (by unfold execOp; rw [hop]; simp [h4, h1]) h2
    · cases he
  case unOp op t x =>
    split at he
    · rename_i z hz; cases he
      obtain ⟨r, h1, h2⟩ := evUn_sound (P := P) w hz (hops x (by simp [Op.operands]))
      exact OpOk.pure0 (u := r) w hM (by unfold execOp; rw [hop]; simp [h1]) h2
    · cases he
  case convert src dst x =>
    split at he
    · rename_i z hz; cases he
      obtain ⟨r, w', h1, h2, h3⟩ := evConv_sound (P := P) w hz (hops x (by simp [Op.operands]))
      exact OpOk.pure (u := r) w hM h3 (by unfold execOp; rw [hop]; simp [h1]) h2
    · cases he
  case fieldAddr t x f =>
    have hx := hops x (by simp [Op.operands])
    split at he
    · rename_i i off fs hp hk
      rw [hp] at hx; unfold V at hx
      obtain ⟨r, b, hr, hxe⟩ := hx
      split at he
      · rename_i fd hfd
        split at he
        · cases he
        · rename_i n hn0 hn; cases he
          refine OpOk.pure0 (u := .pointer (some ⟨r, b + off + fd.offset, none⟩)) w hM ?_ (by unfold V; exact ⟨r, b, hr, by simp [Nat.add_assoc]⟩)
          unfold execOp; rw [hop]
          have := run_fieldAt (P := P) w (r := r) (b := b + off) (kd_struct hk) hfd hn hn0
          simp [hxe, this]
        · cases he
      · cases he
    · cases he
  case field t x f =>
    have hx := hops x (by simp [Op.operands])
    split at he
    · rename_i cs fs hp hk
      rw [hp] at hx; unfold V at hx
      obtain ⟨vs, hxe, hvl⟩ := hx
      split at he
      · rename_i fd hfd
        split at he
        · rename_i z hz; cases he
          obtain ⟨r, h1, h2⟩ := run_field (P := P) w (kd_struct hk) hfd hz hvl
          exact OpOk.pure0 (u := r) w hM (by unfold execOp; rw [hop]; simp [hxe, h1]) h2
        · cases he
      · cases he
    · cases he
  case indexAddr t x ix =>
    have hx := hops x (by simp [Op.operands])
    have hi := hops ix (by simp [Op.operands])
    split at he
    · rename_i i off n e hp hk
      rw [hp] at hx; unfold V at hx
      obtain ⟨r, b, hr, hxe⟩ := hx
      split at he
      · rename_i m sz hm hsz; cases he
        obtain ⟨k, hie, hlt⟩ := idxOf_spec hm hi
        have := run_indexAt_arr (P := P) w (k := k) (r := r) (b := b + off) (kd_arr hk) hlt hsz
        exact OpOk.pure0 (u := .pointer (some ⟨r, b + off + m * sz, none⟩)) w hM (by unfold execOp; rw [hop]; simp [hxe, hie, this]) (by unfold V; exact ⟨r, b, hr, by simp [Nat.add_assoc]⟩)
      · cases he
    · rename_i i off l c e hp hk
      rw [hp] at hx; unfold V at hx
      obtain ⟨r, b, hr, hxe⟩ := hx
      split at he
      · rename_i m sz hm hsz; cases he
        obtain ⟨k, hie, hlt⟩ := idxOf_spec hm hi
        have := run_indexAt_slice (P := P) w (k := k) (r := r) (b := b + off) (c := c) (kd_slice hk) hlt hsz
        exact OpOk.pure0 (u := .pointer (some ⟨r, b + off + m * sz, none⟩)) w hM (by unfold execOp; rw [hop]; simp [hxe, hie, this]) (by unfold V; exact ⟨r, b, hr, by simp [Nat.add_assoc]⟩)
      · cases he
    · cases he
  case index t x ix =>
    have hx := hops x (by simp [Op.operands])
    have hi := hops ix (by simp [Op.operands])
    split at he
    · rename_i cs n e hp hk
      rw [hp] at hx; unfold V at hx
      obtain ⟨vs, hxe, hvl⟩ := hx
      split at he
      · rename_i m sz hm hsz
        split at he
        · rename_i z hz; cases he
          obtain ⟨k, hie, hlt⟩ := idxOf_spec hm hi
          obtain ⟨r, h1, h2⟩ := run_index_arr (P := P) w (k := k) (kd_arr hk) hlt hsz hz hvl
          exact OpOk.pure0 (u := r) w hM (by unfold execOp; rw [hop]; simp [hxe, hie, h1]) h2
        · cases he
      · cases he
    · cases he
  case extract t ix =>
    have hx := hops t (by simp [Op.operands])
    split at he
    · rename_i vs hp
      rw [hp] at hx; unfold V at hx
      obtain ⟨us, hxe, hvl⟩ := hx
      split at he
      · rename_i hb; cases he
        have hb := Nat.le_of_ble_eq_true hb
        obtain ⟨v, h1, h2⟩ := VL_nth _ _ hvl ix (by omega)
        have h1' : (⟨us⟩ : Array Value)[ix]? = some v := by simpa using h1
        exact OpOk.pure0 (u := v) w hM (by unfold execOp; rw [hop]; simp [hxe, Instr.extract, h1']) h2
      · cases he
    · cases he
  case slice t x lo hi mx =>
    have hx := hops x (by simp [Op.operands])
    split at he
    · rename_i i off n e hp hk
      rw [hp] at hx; unfold V at hx
      obtain ⟨r, b, hr, hxe⟩ := hx
      split at he
      · rename_i l h sz hl hh hsz
        split at he
        · rename_i hb
          simp only [Bool.and_eq_true] at hb
          have hb1 := Nat.le_of_ble_eq_true hb.1
          have hb2 := Nat.le_of_ble_eq_true hb.2
          cases he
          have hlo : ∀ code, h ≤ n → ((match lo.map a.eval with | some v => Instr.sliceBound v h code | none => pure 0 : Sem Nat)).run P w = .ok l w := by
            intro code hhn
            cases lo with
            | none => simp at hl; subst hl; rfl
            | some x' =>
              obtain ⟨k, hie, hlt⟩ := idxOf_spec hl (hops x' (by simp [Op.operands]))
              simp only [Option.map_some, Instr.sliceBound, hie, asIntOf, Sem.run_bind, Sem.run_pure, Result.andThen_ok]
              rw [if_pos (by omega)]; simp
          have hhi : h ≤ n ∧ ∀ code, ((match hi.map a.eval with | some v => Instr.sliceBound v n code | none => pure n : Sem Nat)).run P w = .ok h w := by
            cases hi with
            | none => simp at hh; subst hh; exact ⟨Nat.le_refl _, fun _ => rfl⟩
            | some x' =>
              obtain ⟨k, hie, hlt⟩ := idxOf_spec hh (hops x' (by simp [Op.operands]))
              refine ⟨by omega, fun code => ?_⟩
              simp only [Option.map_some, Instr.sliceBound, hie, asIntOf, Sem.run_bind, Sem.run_pure, Result.andThen_ok]
              rw [if_pos (by omega)]; simp
          refine OpOk.pure0 (u := .slice (some ⟨r, b + off + l * sz, none⟩) (h - l) (n - l)) w hM ?_ (by unfold V; exact ⟨r, b, hr, by simp [Nat.add_assoc]⟩)
          have hbounds : (Instr.sliceBounds false n n (lo.map a.eval) (hi.map a.eval) none).run P w = .ok (l, h, n) w := by
            unfold Instr.sliceBounds
            have h1 := hhi.2 .sliceAlen
            have h2 := hlo .sliceB hhi.1
            cases hi <;> cases lo <;> simp_all
          unfold execOp; rw [hop]
          simp only [Instr.sliceAt, Sem.run_bind, run_underlying (kd_arr hk), Result.andThen_ok, hxe, Instr.sureAddr, Sem.run_pure, Option.map_none, hbounds, run_sizeOf w hsz]
          rw [if_neg (by omega), Addr_add]
        · cases he
      · cases he
    · cases he
  case call c =>
    split at he
    · rename_i b hb
      split at he
      · rename_i z hz; cases he
        have hargs := argsOf_VL (ρ := ρ) (a := a) c.args.toList (fun x hx => hops x (by simp only [Op.operands, Call.operands, hb]; simpa using hx))
        have harr : (⟨c.args.toList.map a.eval⟩ : Array Value) = c.args.map a.eval := by
          apply Array.ext'; simp
        obtain ⟨r, w', h1, h2, h3⟩ := evBuiltin_sound (P := P) w (ts := c.argTypes) hz hargs o.type (c.args.map fun | .const _ => true | _ => false)
        rw [harr] at h1
        exact OpOk.pure (u := r) w hM h3 (by unfold execOp; rw [hop]; simp only [resolve, hb, Sem.run_bind, Sem.run_pure, Result.andThen_ok, invoke]; exact h1) h2
      · cases he
    · rename_i f hf
      exact evCall_sound hΓ hop hf he hM (fun x hx => hops x (by simp only [Op.operands, Call.operands, hf]; simpa using Or.inr hx))
    · cases he
end
end Go.Ab
