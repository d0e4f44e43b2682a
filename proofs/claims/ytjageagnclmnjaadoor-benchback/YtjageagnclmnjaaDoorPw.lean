/- PROVED: on plain letters: words between blanks, and what cutting at the first blanks gives. CONDITIONS: none beyond each theorem's own. -/
import Derived.Lib.Split
import Derived.Lib.IndexBytes
import Derived.Lib.AtoiAll
import Derived.Lib.ItoaNum
namespace Go.Proofs.YtjageagnclmnjaaDoor.D
set_option linter.unusedVariables false
/-- words between blanks -/
def wds : List UInt8 → List (List UInt8)
  | [] => [[]]
  | c :: l => if c = 32 then [] :: wds l else match wds l with
    | [] => [[c]]
    | w :: ws => (c :: w) :: ws
theorem wds_word (a : List UInt8) (h : ∀ c ∈ a, c ≠ 32) : wds a = [a] := by
  induction a with
  | nil => rfl
  | cons c a ih =>
    have h1 := h c (by simp)
    rw [wds, if_neg h1, ih fun x hx => h x (by simp [hx])]
theorem wds_more (a l : List UInt8) (h : ∀ c ∈ a, c ≠ 32) : wds (a ++ 32 :: l) = a :: wds l := by
  induction a with
  | nil => rw [List.nil_append, wds, if_pos rfl]
  | cons c a ih =>
    have h1 := h c (by simp)
    rw [List.cons_append, wds, if_neg h1, ih fun x hx => h x (by simp [hx])]
theorem wds_ne (l : List UInt8) : 1 ≤ (wds l).length := by
  induction l with
  | nil => simp [wds]
  | cons c l ih =>
    unfold wds
    split
    · simp
    · split <;> simp
theorem wds_le (l : List UInt8) : (wds l).length ≤ l.length + 1 := by
  induction l with
  | nil => simp [wds]
  | cons c l ih =>
    unfold wds
    split
    · simpa using ih
    · split
      · simp
      · rename_i w ws e; rw [e] at ih; simp at ih ⊢; omega
/-- cut at the first k blanks: the words, if there are not more -/
theorem splitK_wds : ∀ (k : Nat) (l : List UInt8), ((wds l).length ≤ k + 1 → Lib.splitK [32] 0 k l = wds l) ∧ (k + 1 < (wds l).length → (Lib.splitK [32] 0 k l).length = k + 1)
  | 0, l => by
    constructor
    · intro h
      have h1 := wds_ne l
      have : ∀ c ∈ l, c ≠ 32 := by
        clear h1
        intro c hc e
        subst e
        obtain ⟨a, b, rfl⟩ := List.append_of_mem hc
        have : ∀ a : List UInt8, 2 ≤ (wds (a ++ 32 :: b)).length := by
          intro a
          induction a with
          | nil => rw [List.nil_append, wds, if_pos rfl]; have := wds_ne b; simp; omega
          | cons c a ih =>
            rw [List.cons_append, wds]
            split
            · simp; omega
            · split
              · rename_i e; rw [e] at ih; simp at ih
              · rename_i e; rw [e] at ih; simpa using ih
        have := this a
        omega
      rw [wds_word l this]
      rfl
    · intro h; rfl
  | k + 1, l => by
    have hi := Lib.index_one l 32
    unfold Lib.splitK
    rw [hi]
    by_cases hm : Lib.indexByte l 32 = -1
    · have hno := Lib.indexByte_none hm
      have hw := wds_word l (fun c hc e => by
        subst e
        obtain ⟨i, hi⟩ := List.getElem?_of_mem hc
        exact hno i hi)
      rw [if_pos (by simp [hm]), hw]
      exact ⟨fun _ => rfl, fun h => by simp at h⟩
    · have h0 := Lib.indexByte_ge l 32
      obtain ⟨o, ho⟩ : ∃ o : Nat, Lib.indexByte l 32 = o := ⟨(Lib.indexByte l 32).toNat, by omega⟩
      obtain ⟨h1, h2⟩ := Lib.indexByte_some ho
      rw [if_neg (by simp [hm]), ho]
      have hol : o < l.length := by
        rcases Nat.lt_or_ge o l.length with h | h
        · exact h
        · rw [List.getElem?_eq_none h] at h1; simp at h1
      have e : l = l.take o ++ 32 :: l.drop (o + 1) := by
        rw [List.getElem?_eq_getElem hol] at h1
        have h1 := Option.some.inj h1
        rw [← h1, List.getElem_cons_drop, List.take_append_drop]
      have hp : ∀ c ∈ l.take o, c ≠ 32 := by
        intro c hc e
        subst e
        obtain ⟨i, hi⟩ := List.getElem?_of_mem hc
        have hlt : i < o := by
          rcases Nat.lt_or_ge i o with h | h
          · exact h
          · rw [List.getElem?_eq_none (by simp; omega)] at hi; simp at hi
        rw [List.getElem?_take_of_lt hlt] at hi
        exact h2 i hlt hi
      have hw : wds l = l.take o :: wds (l.drop (o + 1)) := by
        conv => lhs; rw [e]
        exact wds_more _ _ hp
      have ih := splitK_wds k (l.drop (o + 1))
      rw [hw]
      simp only [Int.toNat_natCast, Nat.add_zero, List.length_cons, List.length_nil, Nat.zero_add]
      constructor
      · intro h
        rw [ih.1 (by omega)]
      · intro h
        rw [ih.2 (by omega)]
theorem splitN_five (l : List UInt8) : ((wds l).length = 5 ∧ Lib.splitK [32] 0 (min 6 (l.length + 1) - 1) l = wds l) ∨ ((wds l).length ≠ 5 ∧ (Lib.splitK [32] 0 (min 6 (l.length + 1) - 1) l).length ≠ 5) := by
  have h1 := wds_le l
  have h2 := wds_ne l
  obtain ⟨a, b⟩ := splitK_wds (min 6 (l.length + 1) - 1) l
  by_cases h : (wds l).length = 5
  · exact .inl ⟨h, a (by omega)⟩
  · refine .inr ⟨h, ?_⟩
    by_cases hh : (wds l).length ≤ min 6 (l.length + 1) - 1 + 1
    · rw [a hh]; exact h
    · rw [b (by omega)]; omega
/-- what a word of digits reads as -/
def nb (l : List UInt8) : Int := match Lib.atoiAll l with
  | .ok v => v
  | .syntax => 0
  | .range => Lib.atoiSat l
theorem nb_dig : ∀ n, n < 17 → nb (Lib.decDigits n) = (n : Int) := by decide +kernel
/-- the kind that a word names -/
def kd (l : List UInt8) : Int := if l = [118, 101, 103, 97, 115] then 1 else if l = [99, 111, 112, 97] then 2 else if l = [108, 101, 100, 98, 97, 116] then 3 else 0
end Go.Proofs.YtjageagnclmnjaaDoor.D
