import Derived.Test.YtnkfeoodbhihcaaLm3
import Derived.Test.YtnkfeoodbhihcaaLmb
namespace Go.Proofs.Ytnkfeoodbhihcaa.lm
open Go Go.Ab Go.Proofs Go.RowKit Go.Shelf
set_option linter.unusedVariables false
def enSh : List CK := [.bool, .int .u32, .int .i64, .int .i64, .int .i64]
theorem ents_of {ρ : Rho} {S : St} {w : World} (hM : Hp ρ S w) {i a n : Nat} {vc : Vc} (hvec : S.vec i = some vc) (hsh : vc.sh = enSh) {v : Value} (hV : V ρ (.vec i 5 a (.sym n)) v) (han : a + n ≤ vc.n.val) :
    ∃ p c, v = .slice p n c ∧ EntsV (fun k => vc.gd (a + k)) (fun k => vc.bd (a + k)) w.heap.size w v n := by
  unfold V at hV
  obtain ⟨hn, hk, base, c, rfl, hc⟩ := hV
  refine ⟨base, c, rfl, ?_⟩
  rcases hc with ⟨rfl, h0⟩ | ⟨r, b, hr, rfl, rfl, hcap⟩
  · have h0 : n = 0 := h0
    subst h0
    exact Or.inl ⟨base, 0, rfl, rfl⟩
  · refine Or.inr ⟨r, b + a * 5, _, rfl, hM.lt i r b hr, fun k hk => ?_⟩
    have hkn : a + k < vc.n.val := by omega
    have hl : lenL vc.sh = 5 := by rw [hsh]; rfl
    have at_ : ∀ o ck, nthC o vc.sh = some ck → ∃ u, w.cell? ⟨r, b + a * 5 + k * 5 + o, none⟩ = some u ∧ V ρ (vc.mkA (a + k) o ck) u := fun o ck h => by
      obtain ⟨u, h1, h2⟩ := hM.vcell i vc r b (a + k) o ck hvec hr hkn h
      rw [hl] at h1
      have e : b + ((a + k) * 5 + o) = b + a * 5 + k * 5 + o := by omega
      rw [e] at h1
      exact ⟨u, h1, h2⟩
    obtain ⟨u0, h0, k0⟩ := at_ 0 .bool (by rw [hsh]; rfl)
    obtain ⟨u1, h1, k1⟩ := at_ 1 (.int .u32) (by rw [hsh]; rfl)
    obtain ⟨u2, h2, k2⟩ := at_ 2 (.int .i64) (by rw [hsh]; rfl)
    obtain ⟨u3, h3, k3⟩ := at_ 3 (.int .i64) (by rw [hsh]; rfl)
    obtain ⟨u4, h4, k4⟩ := at_ 4 (.int .i64) (by rw [hsh]; rfl)
    simp only [Vc.mkA] at k0 k1 k2 k3 k4
    unfold V at k0 k1 k2 k3 k4
    subst k0 k1 k2 k3 k4
    exact ⟨h0, h1, h2, h3, h4⟩
noncomputable def lmA (bd : Nat → Nat → Bool) (a n : Nat) : AVal := .tuple [.sint .i64 (cond (decide ((150 : Int) < n)) 0 (li (fun k => bd (a + k) 0) n)), .sint .i64 (cond (decide ((150 : Int) < n)) 2 (lc (fun k => bd (a + k) 0) n))]
noncomputable def lmK : Ctr := ⟨fun args S => match args with
  | [.vec i e a n] => match S.vec i with
    | some v => match Nat.beq e 5 && eqSh enSh v.sh with
      | true => some ⟨lmA v.bd a n.val, [], [], [], Nat.ble (Nat.add a n.val) v.n.val, none⟩
      | false => none
    | none => none
  | _ => none, none⟩
theorem sat_lm {f : FuncId} (hcall : ∀ (args : Array Value) (w : World), (callFunc f args).run Try.prog w = .ok (.enter f args) w)
    (h : ∀ (gd : Nat → Nat → Int) (bd : Nat → Nat → Bool) (p : Option Addr) (len cap : Nat) (w : World), EntsV gd bd w.heap.size w (.slice p len cap) len → Calls Try.prog f #[.slice p len cap] w fun e W' => e = .returned (.tuple #[.int .i64 (cond (decide ((150 : Int) < len)) 0 (li (fun k => bd k 0) len)), .int .i64 (cond (decide ((150 : Int) < len)) 2 (lc (fun k => bd k 0) len))]) ∧ Below w.heap.size w W') : Sat Try.prog f lmK := by
  show SatC Try.prog f lmK
  refine ⟨hcall, fun args S out hfn hnd M w0 ρ w vs hM hv => ?_⟩
  simp only [lmK] at hfn
  split at hfn
  · rename_i i e a n
    split at hfn
    · rename_i v hvec
      split at hfn
      · rename_i hb
        simp only [Bool.and_eq_true] at hb
        have he := Nat.eq_of_beq_eq_true hb.1
        subst he
        have hs := (eqSh_eq hb.2).symm
        cases hfn
        have hnd : a + n.val ≤ v.n.val := Nat.le_of_ble_eq_true hnd
        obtain ⟨u, r, rfl, hu, hr⟩ := hv
        cases hr
        have hu' : V ρ (.vec i 5 a (.sym n.val)) u := by
          unfold V at hu ⊢
          exact ⟨trivial, hu.2⟩
        obtain ⟨p, c, rfl, hE⟩ := ents_of hM.hp hvec hs hu' hnd
        refine (h _ _ p n.val c w hE).mono ?_
        rintro e w' ⟨rfl, hb⟩
        refine ⟨fun b v h => (by cases h), ρ, ExtS.refl _ _, ?_, (hM.quiet (Fr.of_below hb)).put_nil⟩
        unfold lmA V
        exact ⟨_, rfl, VL_cons (sint_V .i64 _) (VL_cons (sint_V .i64 _) VL_nil)⟩
      · cases hfn
    · cases hfn
  · cases hfn
theorem sat12 : Sat Try.prog 12 lmK := sat_lm Try.call12 (fun gd bd p len cap w hE => spec_any gd bd p len cap _ w hE)
theorem sat14 : Sat Try.prog 14 lmK := sat_lm Try.call14 (fun gd bd p len cap w hE => last_any gd bd p len cap w hE)
end Go.Proofs.Ytnkfeoodbhihcaa.lm
