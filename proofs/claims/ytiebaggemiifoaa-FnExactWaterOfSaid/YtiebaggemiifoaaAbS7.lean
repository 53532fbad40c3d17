import Derived.Test.YtiebaggemiifoaaAbS6
namespace Go.Ab
open Go Go.RowKit

section
variable {P : Program} {ρ : Rho} {o : Oper} {a : Act} {S : St} {M : Addr → Prop} {w0 w : World}

theorem argsOf_VL : ∀ (xs : List Operand), (∀ x ∈ xs, V ρ (opd S x) (a.eval x)) → VL ρ (argsOf S xs) (xs.map a.eval)
  | [], _ => by simp [argsOf, VL]
  | x :: xs, h => by
    simp only [argsOf, List.map_cons]
    unfold VL
    exact ⟨_, _, rfl, h x (by simp), argsOf_VL xs (fun y hy => h y (by simp [hy]))⟩

theorem run_call_func {c : Call} {f : FuncId} (hop : o.op = .call c) (hc : c.callee = .value (.func f)) (hf : ∀ (args : Array Value) (w : World), (callFunc f args).run P w = .ok (.enter f args) w) :
    (execOp a.eval o).run P w = .ok (.enter f (c.args.map a.eval)) w := by
  unfold execOp
  rw [hop]
  simp only [resolve, hc, Act.eval, Deferred.ofValue, Sem.run_bind, Sem.run_pure, Result.andThen_ok, invoke, hf]
  simp

theorem nth_get : ∀ (l : List AVal) (i : Nat) (_h : i < l.length), l[i]? = some (nth i l)
  | [], _, h => by simp at h
  | x :: l, 0, _ => rfl
  | x :: l, i + 1, h => by simpa [nth] using nth_get l i (by simpa using h)

theorem evExt_sound {k : Xk} {args : List AVal} {z : AVal} {vs : List Value} (w : World) (h : evExt k args = some z) (hv : VL ρ args vs) : ∃ u, (extFn k ⟨vs⟩).run P w = .ok u w ∧ V ρ z u := by
  unfold evExt at h
  split at h
  all_goals first | (cases h; done) | skip
  case' h_3 | h_4 =>
    split at h
    case h_2 => cases h
    rename_i hlt
    have hlt := Nat.le_of_ble_eq_true hlt
  all_goals
    cases h
    unfold VL at hv
    obtain ⟨v, vs', rfl, hv1, hv⟩ := hv
    unfold VL at hv
    subst hv
    unfold V at hv1
  case h_1 b | h_2 b =>
    obtain ⟨b', rfl, hb, _, _⟩ := hv1
    refine ⟨_, rfl, ?_⟩
    unfold V
    refine ⟨_, rfl, fun hn => ?_⟩
    rcases hb with rfl | ⟨h1, _⟩
    · rfl
    · rw [nanB_eq, h1] at hn; cases hn
  all_goals
    subst hv1
    refine ⟨_, rfl, ?_⟩
    unfold V
    exact ⟨_, rfl, Or.inl rfl, hlt, hlt⟩

theorem evCall_sound {Γ : List (Nat × Ctr)} (hΓ : ∀ f c, lookC f Γ = some c → Sat P f c) {c : Call} {f : FuncId} {out : Out} (hop : o.op = .call c) (hc : c.callee = .value (.func f))
    (he : evCall Γ S f (argsOf S c.args.toList) = some out) (hM : Mem M w0 ρ S w) (hops : ∀ x ∈ c.args.toList, V ρ (opd S x) (a.eval x)) : OpOk P o a S w M w0 ρ out := by
  unfold evCall at he
  split at he
  case h_2 => cases he
  rename_i ctr hctr
  have hsat0 := hΓ f ctr hctr
  have hvs := argsOf_VL (ρ := ρ) (a := a) c.args.toList hops
  have harr : (⟨c.args.toList.map a.eval⟩ : Array Value) = c.args.map a.eval := by
    apply Array.ext'; simp
  split at he
  · -- without a body
    rename_i k hk
    split at he
    · rename_i v hv; cases he
      unfold Sat at hsat0
      rw [hk] at hsat0
      simp only at hsat0
      obtain ⟨u, h1, h2⟩ := evExt_sound (P := P) w hv hvs
      rw [harr] at h1
      refine OpOk.pure0 (u := u) w hM ?_ h2
      unfold execOp
      rw [hop]
      simp only [resolve, hc, Act.eval, Deferred.ofValue, Sem.run_bind, Sem.run_pure, Result.andThen_ok, invoke]
      have e : #[] ++ Array.map a.eval c.args ++ #[] = c.args.map a.eval := by simp
      rw [e, hsat0, h1]
      rfl
    · cases he
  rename_i hx
  have hsat : SatC P f ctr := by
    unfold Sat at hsat0
    rw [hx] at hsat0
    exact hsat0
  split at he
  case h_2 => cases he
  rename_i as ws bl hmk
  have hVL := mkArgs_VL _ _ _ _ _ _ _ hmk hvs [] [] rfl
  simp only [List.nil_append, List.append_nil] at hVL
  have hpre := mkArgs_pre hM.hp hmk hvs
  obtain ⟨hlen, hbl⟩ := mkArgs_bl _ _ _ _ _ _ _ hmk hvs
  split at he
  · -- a reader
    rename_i v hfn
    split at he
    · rename_i hflat
      cases he
      have hcall := hsat.sat as bl v none hfn _ w _ hVL hpre (fun h => by cases h)
      intro next Q hn
      unfold Oper.wp
      rw [run_call_func hop hc hsat.call, Oper.upon_enter, ← harr]
      refine hcall.mono ?_
      rintro e w' ⟨u, rfl, hu, hp⟩
      exact hn u w' ρ (Ext.refl _) (V_flat _ _ hflat hu) (hM.quiet hp).put_nil
    · cases he
  · -- a writer
    rename_i v bl' hfn
    split at he
    · rename_i hb
      simp only [Bool.and_eq_true] at hb
      obtain ⟨hflat, hok⟩ := hb
      obtain ⟨hwr, hdis⟩ := okViews_spec ws hok
      split at he
      · rename_i h hwv
        cases he
        obtain ⟨hlen', hn', hspec⟩ := writeViews_spec ws bl' h hwv hdis
        have hprew : PreW (rhoOf ρ ws) w bl := by
          refine ⟨fun i j r b b' hij hi hj => ?_, fun j cs r b o x hcs hr hx => ?_⟩
          · unfold rhoOf at hi hj
            cases hu : ws[i]? with
            | none => rw [hu] at hi; cases hi
            | some u =>
              cases hv : ws[j]? with
              | none => rw [hv] at hj; cases hj
              | some v =>
                rw [hu] at hi; rw [hv] at hj
                simp only [Option.bind_some, Option.map_eq_some_iff] at hi hj
                obtain ⟨p, hp, hpe⟩ := hi
                obtain ⟨q, hq, hqe⟩ := hj
                obtain ⟨p1, p2⟩ := p
                obtain ⟨q1, q2⟩ := q
                simp only [Prod.mk.injEq] at hpe hqe
                obtain ⟨rfl, _⟩ := hpe
                obtain ⟨rfl, _⟩ := hqe
                exact hM.hp.dis u.i v.i _ _ _ (hdis i j u v hij hu hv) (hwr i u hu) hp hq
          · unfold rhoOf at hr
            cases hu : ws[j]? with
            | none => rw [hu] at hr; cases hr
            | some u =>
              rw [hu] at hr
              simp only [Option.bind_some, Option.map_eq_some_iff] at hr
              obtain ⟨⟨p1, p2⟩, hp, hpe⟩ := hr
              simp only [Prod.mk.injEq] at hpe
              obtain ⟨rfl, rfl⟩ := hpe
              obtain ⟨hca, _, _⟩ := hbl j u cs hu hcs
              have := (cellsAt_len _ _ _ _ hca).2 o x hx
              have := hM.hp.frz u.i (u.o + o) x _ _ this (hwr j u hu) hp
              rw [Nat.add_assoc]; exact this
        have hcall := hsat.sat as bl v (some bl') hfn _ w _ hVL hpre (fun _ => hprew)
        intro next Q hn
        unfold Oper.wp
        rw [run_call_func hop hc hsat.call, Oper.upon_enter, ← harr]
        refine hcall.mono ?_
        rintro e w' ⟨u, rfl, hu, hp, hrow⟩
        -- the views are cells that may be written
        have hview : ∀ x, ViewA (rhoOf ρ ws) bl x → WrA ρ S x := by
          rintro x ⟨j, cs, r, b, o, y, hcs, hr, hy, rfl⟩
          unfold rhoOf at hr
          cases hu' : ws[j]? with
          | none => rw [hu'] at hr; cases hr
          | some u' =>
            rw [hu'] at hr
            simp only [Option.bind_some, Option.map_eq_some_iff] at hr
            obtain ⟨⟨p1, p2⟩, hp', hpe⟩ := hr
            simp only [Prod.mk.injEq] at hpe
            obtain ⟨rfl, rfl⟩ := hpe
            obtain ⟨hca, _, _⟩ := hbl j u' cs hu' hcs
            have := (cellsAt_len _ _ _ _ hca).2 o y hy
            exact ⟨u'.i, u'.o + o, y, _, _, this, hwr j u' hu', hp', by rw [Nat.add_assoc]⟩
        have hblk : ∀ i, (S.put h []).blk i = S.blk i := fun i => by simp [St.put, St.ext, St.blk]
        have hcellput : ∀ i o, (S.put h []).cell i o = match S.cell i o with | none => none | some y => match hlook1 i o h with | some z => some z | none => some y := by
          intro i o
          unfold St.cell
          rw [hblk]
          cases Nat.ble (o + 1) (S.blk i).cells.length with
          | false => rfl
          | true =>
            simp only [St.put, St.ext, hlookL]
            cases hlook1 i o h <;> cases hlookL i o S.hvs <;> rfl
        refine hn u w' ρ (Ext.refl _) (V_flat _ _ hflat hu) (hM.step hp hview ?_ ?_ (fun i => by rw [hblk]) (by simp [St.put, St.ext]) ?_)
        · intro i o x hx
          rw [hcellput] at hx
          cases hy : S.cell i o with
          | none => rw [hy] at hx; cases hx
          | some y =>
            rw [hy] at hx
            simp only at hx
            obtain ⟨r, b, v', k1, k2, k3⟩ := hM.hp.cell i o y hy
            rcases hspec i o with ⟨h1, h2⟩ | ⟨k, u', b', h1, h2, h3, h4, h5, h6⟩
            · rw [h1] at hx
              cases hx
              refine ⟨r, b, v', k1, ?_, k3⟩
              rw [hp.cell _ (World.block_lt_of_cell? _ _ k2) ?_]
              · exact k2
              · rintro ⟨j, cs, r', b'', o', z, hcs, hr, hz, he⟩
                unfold rhoOf at hr
                cases hu' : ws[j]? with
                | none => rw [hu'] at hr; cases hr
                | some u' =>
                  rw [hu'] at hr
                  simp only [Option.bind_some, Option.map_eq_some_iff] at hr
                  obtain ⟨⟨p1, p2⟩, hp', hpe⟩ := hr
                  simp only [Prod.mk.injEq] at hpe
                  obtain ⟨rfl, rfl⟩ := hpe
                  simp only [Addr.mk.injEq, and_true] at he
                  obtain ⟨rfl, he⟩ := he
                  by_cases hii : i = u'.i
                  · subst hii
                    rw [hp'] at k1
                    simp only [Option.some.injEq, Prod.mk.injEq, true_and] at k1
                    subst k1
                    obtain ⟨hca, _, _⟩ := hbl j u' cs hu' hcs
                    have hl := (cellsAt_len _ _ _ _ hca).1
                    have ho' : o' < cs.length := (List.getElem?_eq_some_iff.1 hz).1
                    exact h2 j u' hu' ⟨rfl, by omega, by omega⟩
                  · exact hM.hp.dis u'.i i _ _ _ (Ne.symm hii) (hwr j u' hu') hp' k1
            · rw [h6] at hx
              cases hx
              obtain ⟨hnb, hfb⟩ := hn' k u' b' h1 h2
              obtain ⟨rr, bb, hrr, hcell⟩ := hrow k b' h2
              obtain ⟨vv, hv1, hv2⟩ := hcell (o - u'.o) _ (nth_get b' (o - u'.o) (by omega))
              unfold rhoOf at hrr
              rw [h1] at hrr
              simp only [Option.bind_some, Option.map_eq_some_iff] at hrr
              obtain ⟨⟨p1, p2⟩, hp', hpe⟩ := hrr
              simp only [Prod.mk.injEq] at hpe
              obtain ⟨rfl, rfl⟩ := hpe
              refine ⟨p1, p2, vv, by rw [h3]; exact hp', ?_, V_flat _ _ (flatL_get b' _ _ hfb (nth_get b' (o - u'.o) (by omega))) hv2⟩
              have e : p2 + u'.o + (o - u'.o) = p2 + o := by omega
              rw [← e]; exact hv1
        · intro i o x hx
          rw [hcellput] at hx
          cases hy : S.cell i o with
          | none => rw [hy] at hx; cases hx
          | some y => exact ⟨y, rfl⟩
        · intro i o x hx
          simp only [St.put, St.ext, hlookL, List.append_nil] at hx ⊢
          rcases hspec i o with ⟨h1, h2⟩ | ⟨k, u', b', h1, h2, h3, h4, h5, h6⟩
          · rw [h1] at hx
            exact hM.hp.ink i o x hx
          · rw [h3]
            have hk : k < ws.length := (List.getElem?_eq_some_iff.1 h1).1
            obtain ⟨cs, hcs⟩ : ∃ cs, bl[k]? = some cs := ⟨_, List.getElem?_eq_getElem (by omega)⟩
            obtain ⟨_, _, r, b, hr⟩ := hbl k u' cs h1 hcs
            exact hM.hp.dom _ _ hr
      · cases he
    · cases he
  · cases he

end
end Go.Ab
