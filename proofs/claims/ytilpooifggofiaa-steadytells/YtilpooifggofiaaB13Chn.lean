/- PROVED: a region that draws its order, whose operations that change memory wait for one another: whatever the order, each yields the same, and the worlds are the same. CONDITIONS: none beyond each theorem's own. -/
import Derived.Test.YtilpooifggofiaaB12Rh
namespace Go.Proofs.Ytilpooifggofiaa.D
open Go.RowKit K
set_option linter.unusedVariables false

/-- the slots that are written -/
def slotsOf (O : List (Op × Option Nat)) : List Nat := O.filterMap Prod.snd
/-- where operation i leaves what it yields -/
def slotAt (O : List (Op × Option Nat)) (i : Nat) : Option Nat := (O[i]?).bind Prod.snd
def chk (O : List (Op × Option Nat)) (D Tr : List (List Nat)) (ch : List Nat) : Bool :=
  ((List.range O.length).all fun i => (List.range O.length).all fun j => i == j || slotAt O i == none || slotAt O i != slotAt O j) &&
  ((List.range O.length).all fun i => (Tr.getD i []).all fun j => (D.getD i []).contains j || (D.getD i []).any fun d => (Tr.getD d []).contains j) &&
  ((List.range ch.length).all fun q => (List.range q).all fun p => (Tr.getD (ch.getD q 0) []).contains (ch.getD p 0)) &&
  (ch.all fun c => c < O.length) && decide (D.length = O.length) && decide ch.Nodup
theorem slot_mem {O : List (Op × Option Nat)} {i s : Nat} (h : slotAt O i = some s) : s ∈ slotsOf O := by
  unfold slotAt at h
  cases hi : O[i]? with
  | none => rw [hi] at h; cases h
  | some t =>
    rw [hi] at h
    exact List.mem_filterMap.2 ⟨t, List.mem_of_getElem? hi, h⟩
section
variable {P : Program} {ops : Array Oper} {Q : Exit → Act → World → Prop}
structure Cj (N : Nat) (O : List (Op × Option Nat)) (Tr : List (List Nat)) (ch : List Nat) (val : Nat → Value) (Ws : Nat → World) (L : Array Bool) (y : Nat → Value) (w : World) : Prop where
  ls : L.size = N
  sl : ∀ i s, slotAt O i = some s → L.getD i false = true → y s = val i
  dn : ∀ i, L.getD i false = true → ∀ j ∈ Tr.getD i [], L.getD j false = true
  ph : ∃ p, p ≤ ch.length ∧ (∀ q c, ch[q]? = some c → (L.getD c false = true ↔ q < p)) ∧ w = Ws p
/-- THE CHAIN -/
theorem wp_region_chain {O : List (Op × Option Nat)} (ho : looks ops O) {D : List (List Nat)} (hd : waits ops D = true) (hor : (List.range ops.size).all (fun i => ((ops[i]?).map fun o => o.after.all fun e => !Region.binds .any e || decide (e.on < i)).getD true) = true) {id : Nat} {a0 : Act} {W : World} (hm : P.follows .mixedOrders = true)
    (Tr : List (List Nat)) (ch : List Nat) (hck : chk O D Tr ch = true) (hz : ∀ s ∈ slotsOf O, s < a0.tmps.size) (val : Nat → Value) (Ws : Nat → World) (hW : Ws 0 = W.drew)
    (hs : ∀ i o, ops[i]? = some o → i < O.length → o.guard = none → ∀ t, O[i]? = some t → o.op = t.1 → o.dst = t.2 → ∀ p, p ≤ ch.length → (∀ q c, ch[q]? = some c → c ∈ Tr.getD i [] → q < p) → (∀ q c, ch[q]? = some c → i ∈ Tr.getD c [] → p ≤ q) → (∀ q, ch[q]? = some i → q = p) →
      ∀ a : Act, (∀ s, s ∉ slotsOf O → a.eval (.tmp s) = a0.eval (.tmp s)) → (∀ j s, j ∈ D.getD i [] → slotAt O j = some s → a.eval (.tmp s) = val j) →
        (t.2.isSome = true ∧ (execOp a.eval o).run P (Ws p) = .ok (.value (val i)) (Ws (if i ∈ ch then p + 1 else p))) ∨ (t.2 = none ∧ (execOp a.eval o).run P (Ws p) = .ok .skip (Ws (if i ∈ ch then p + 1 else p))))
    (hQ : ∀ y, (∀ i s, slotAt O i = some s → y s = val i) → Q .normal (tA a0 (slotsOf O) y) (Ws ch.length)) : (Code.region id ops true).wp P Q a0 W := by
  have hN : ops.size = O.length := looks_size ho
  unfold chk at hck
  simp only [Bool.and_eq_true, List.all_eq_true, List.mem_range, Bool.or_eq_true, beq_iff_eq, bne_iff_ne, List.any_eq_true, List.contains_iff_mem, decide_eq_true_eq] at hck
  obtain ⟨⟨⟨⟨⟨k1, k2⟩, k3⟩, k4⟩, k5⟩, k6⟩ := hck
  have chAt : ∀ q c, ch[q]? = some c → ch.getD q 0 = c ∧ q < ch.length := fun q c h => ⟨by rw [List.getD_eq_getElem?_getD, h]; rfl, (List.getElem?_eq_some_iff.1 h).1⟩
  have sdiff : ∀ i j s, i < O.length → j < O.length → i ≠ j → slotAt O i = some s → slotAt O j ≠ some s := fun i j s hi hj hne h1 h2 => by
    rcases k1 i hi j hj with (q | q) | q
    · exact hne q
    · rw [h1] at q; cases q
    · exact q (h1.trans h2.symm)
  have inL : ∀ {L : Array Bool} {i : Nat}, L.size = ops.size → L.getD i false = true → i < O.length := fun {L i} hL h => by
    rcases Nat.lt_or_ge i O.length with q | q
    · exact q
    · rw [Array.getD_eq_getD_getElem?, Array.getElem?_eq_none (by omega)] at h; cases h
  refine wp_region_slots hm (slotsOf O) (fun L y w' => Cj ops.size O Tr ch val Ws L y w') ?_ ?_ ?_
  · have f : ∀ i, (Array.replicate ops.size false).getD i false = false := fun i => by
      rw [Array.getD_eq_getD_getElem?, Array.getElem?_replicate]
      split <;> rfl
    refine ⟨by simp, fun i s _ h => ?_, fun i h => ?_, 0, Nat.zero_le _, fun q c _ => ?_, hW.symm⟩
    · rw [f] at h; cases h
    · rw [f] at h; cases h
    · rw [f]; simp
  · intro L y w' hG i hi
    obtain ⟨p, hp, hph, rfl⟩ := hG.ph
    have hio : i < ops.size := by
      obtain ⟨_, o, q, _⟩ := mem_ready.1 hi
      exact (Array.getElem?_eq_some_iff.1 q).1
    have hiO : i < O.length := by omega
    obtain ⟨t, ht⟩ : ∃ t, O[i]? = some t := ⟨_, List.getElem?_eq_getElem hiO⟩
    obtain ⟨o, h1, h2, h3, h4⟩ := looks_at ho ht
    have hw := waits_at hd hi (l := D.getD i []) (by rw [List.getD_eq_getElem?_getD, List.getElem?_eq_getElem (by omega)]; rfl)
    have hno : L.getD i false = false := not_yet (by rw [hG.ls]; exact hio) hw.1
    have htr : ∀ j ∈ Tr.getD i [], L.getD j false = true := fun j hj => by
      rcases k2 i hiO j hj with q | ⟨d, hd1, hd2⟩
      · exact hw.2 j q
      · exact hG.dn d (hw.2 d hd1) j hd2
    have hz' : i < L.size := by rw [hG.ls]; exact hio
    have got := hs i o h1 hiO h4 t ht h2 h3 p hp (fun q c hq hc => (hph q c hq).1 (htr c hc)) (fun q c hq hc => by
        rcases Nat.lt_or_ge q p with e | e
        · have := hG.dn c ((hph q c hq).2 e) i hc
          rw [hno] at this; cases this
        · exact e) (fun q hq => by
        have a1 : ¬ q < p := fun e => by have := (hph q i hq).2 e; rw [hno] at this; cases this
        rcases Nat.lt_or_ge p q with e | e
        · exfalso
          have hpq : p < ch.length := by have := (chAt q i hq).2; omega
          have hcp : ch[p]? = some ch[p] := List.getElem?_eq_getElem hpq
          have m := k3 q (chAt q i hq).2 p e
          rw [(chAt q i hq).1, (chAt p _ hcp).1] at m
          have := (hph p _ hcp).1 (htr _ m)
          omega
        · omega) (tA a0 (slotsOf O) y) (fun s h => tA_other a0 (slotsOf O) y h) (fun j s hj hsl => by
        rw [tA_slot a0 (slotsOf O) y (slot_mem hsl) (hz s (slot_mem hsl))]
        exact hG.sl j s hsl (hw.2 j hj))
    have hpn : ∃ p', p' ≤ ch.length ∧ (∀ q c, ch[q]? = some c → ((L.setIfInBounds i true).getD c false = true ↔ q < p')) ∧ Ws (if i ∈ ch then p + 1 else p) = Ws p' := by
      by_cases hm' : i ∈ ch
      · obtain ⟨q0, hq0, e0⟩ := List.getElem_of_mem hm'
        have hq0' : ch[q0]? = some i := by rw [List.getElem?_eq_getElem hq0, e0]
        have hq0p : q0 = p := by
          have a1 : ¬ q0 < p := fun e => by have := (hph q0 i hq0').2 e; rw [hno] at this; cases this
          rcases Nat.lt_or_ge p q0 with e | e
          · exfalso
            have hpq : p < ch.length := by omega
            have hcp : ch[p]? = some ch[p] := List.getElem?_eq_getElem hpq
            have m := k3 q0 hq0 p e
            rw [(chAt q0 i hq0').1, (chAt p _ hcp).1] at m
            have := (hph p _ hcp).1 (htr _ m)
            omega
          · omega
        subst hq0p
        refine ⟨q0 + 1, hq0, fun q c hq => ?_, by rw [if_pos hm']⟩
        rw [getD_set hz']
        by_cases e : c = i
        · subst e
          have : q = q0 := by
            have h5 := (List.getElem?_eq_some_iff.1 hq)
            obtain ⟨h5, h6⟩ := h5
            exact (List.getElem_inj k6).1 (h6.trans e0.symm)
          simp [this]
        · rw [if_neg e, hph q c hq]
          have : q ≠ q0 := fun e2 => e (by rw [e2, hq0'] at hq; injection hq with hq; exact hq.symm)
          omega
      · refine ⟨p, hp, fun q c hq => ?_, by rw [if_neg hm']⟩
        rw [getD_set hz', if_neg (fun e => hm' (by rw [← e]; exact List.mem_of_getElem? hq))]
        exact hph q c hq
    have hdn : ∀ j, (L.setIfInBounds i true).getD j false = true → ∀ j' ∈ Tr.getD j [], (L.setIfInBounds i true).getD j' false = true := fun j hj j' hj' => by
      rw [getD_set hz'] at hj ⊢
      by_cases e : j' = i
      · rw [if_pos e]
      · rw [if_neg e]
        by_cases e2 : j = i
        · subst e2; exact htr j' hj'
        · rw [if_neg e2] at hj; exact hG.dn j hj j' hj'
    rcases got with ⟨q1, q2⟩ | ⟨q1, q2⟩
    · obtain ⟨s, hsS⟩ := Option.isSome_iff_exists.1 q1
      have hsl : slotAt O i = some s := by unfold slotAt; rw [ht]; exact hsS
      refine wpOp_value h1 h4 q2 ?_
      rw [h3, hsS]
      refine ⟨_, tA_put a0 (slotsOf O) y (slot_mem hsl) _, by simp [hG.ls], fun j s' hj' hl => ?_, hdn, hpn⟩
      rw [getD_set hz'] at hl
      by_cases e : j = i
      · subst e
        rw [hsl] at hj'; injection hj' with hj'
        subst hj'
        exact up_at _ _ _
      · rw [if_neg e] at hl
        rw [up_ne _ _ _ (fun q => sdiff i j s hiO (inL hG.ls hl) (Ne.symm e) hsl (by rw [← q]; exact hj'))]
        exact hG.sl j s' hj' hl
    · refine wpOp_skip h1 h4 q2 ?_
      rw [h3, q1]
      refine ⟨y, rfl, by simp [hG.ls], fun j s' hj' hl => ?_, hdn, hpn⟩
      rw [getD_set hz'] at hl
      by_cases e : j = i
      · subst e
        unfold slotAt at hj'
        rw [ht] at hj'
        have : t.2 = some s' := hj'
        rw [q1] at this; cases this
      · rw [if_neg e] at hl; exact hG.sl j s' hj' hl
  · intro L y w' hG hr
    have al := all_up hG.ls hor hr
    obtain ⟨p, hp, hph, rfl⟩ := hG.ph
    have hpe : p = ch.length := by
      rcases Nat.lt_or_ge p ch.length with e | e
      · have hcp : ch[p]? = some ch[p] := List.getElem?_eq_getElem e
        have := (hph p _ hcp).1 (al _ (by rw [hN]; exact k4 _ (List.getElem_mem e)))
        omega
      · omega
    subst hpe
    refine hQ y fun i s hsl => hG.sl i s hsl (al i ?_)
    rw [hN]
    rcases Nat.lt_or_ge i O.length with q | q
    · exact q
    · unfold slotAt at hsl; rw [List.getElem?_eq_none q] at hsl; cases hsl
end
end Go.Proofs.Ytilpooifggofiaa.D
