/- PROVED: on plain letters: the text of rules, who can read it, and that no two rules have one text. CONDITIONS: none beyond each theorem's own. -/
import Derived.Test.YtjageagnclmnjaaDoorPw
import Derived.Test.YtjageagnclmnjaaDoorKDuel
namespace Go.Proofs.YtjageagnclmnjaaDoor.D
open K
set_option linter.unusedVariables false

/-- the name of a kind -/
def nme (k : Int) : List UInt8 := if k = 1 then [118, 101, 103, 97, 115] else if k = 2 then [99, 111, 112, 97] else [108, 101, 100, 98, 97, 116]
/-- the text of rules -/
def tx (r : Ru) : List UInt8 := nme r.k0 ++ 32 :: nme r.k1 ++ 32 :: Lib.decDigits r.r.toNat ++ 32 :: Lib.decDigits r.m.toNat ++ 32 :: Lib.decDigits r.j.toNat
/-- all rules that there are, in the document's own order -/
def allRu : List Ru := (List.range 9).flatMap fun (n : Nat) => (List.range 12).flatMap fun (a : Nat) => (List.range 17).flatMap fun (b : Nat) => (List.range 4).map fun (c : Nat) => ⟨((n / 3 : Nat) : Int) + 1, ((n % 3 : Nat) : Int) + 1, (a : Int) + 1, (b : Int), (c : Int)⟩
def dig (n : Nat) : List UInt8 := Lib.decDigits n
theorem dig_plain : ∀ n, n < 17 → ∀ c ∈ dig n, c ≠ 32 := by decide +kernel
theorem dig_inj : ∀ n, n < 17 → ∀ m, m < 17 → dig n = dig m → n = m := by decide +kernel
theorem nme_plain (k : Int) : ∀ c ∈ nme k, c ≠ 32 := by
  unfold nme
  split
  · decide
  · split <;> decide
theorem nme_inj {k l : Int} (hk : 1 ≤ k ∧ k ≤ 3) (hl : 1 ≤ l ∧ l ≤ 3) (h : nme k = nme l) : k = l := by
  rcases (show k = 1 ∨ k = 2 ∨ k = 3 by omega) with rfl | rfl | rfl <;> rcases (show l = 1 ∨ l = 2 ∨ l = 3 by omega) with rfl | rfl | rfl <;> first | rfl | exact absurd h (by decide)
theorem tx_words {r : Ru} (h : ranges r) : wds (tx r) = [nme r.k0, nme r.k1, dig r.r.toNat, dig r.m.toNat, dig r.j.toNat] := by
  obtain ⟨h1, h2, h3⟩ := h
  show wds (nme r.k0 ++ 32 :: nme r.k1 ++ 32 :: dig r.r.toNat ++ 32 :: dig r.m.toNat ++ 32 :: dig r.j.toNat) = _
  simp only [List.append_assoc, List.cons_append]
  rw [wds_more _ _ (nme_plain _), wds_more _ _ (nme_plain _), wds_more _ _ (dig_plain _ (by omega)), wds_more _ _ (dig_plain _ (by omega)), wds_word _ (dig_plain _ (by omega))]
/-- no two have one text -/
theorem tx_inj {r s : Ru} (hr : kinds r ∧ ranges r) (hs : kinds s ∧ ranges s) (h : tx r = tx s) : r = s := by
  have e := congrArg wds h
  rw [tx_words hr.2, tx_words hs.2] at e
  obtain ⟨⟨a0, a1⟩, b1, b2, b3⟩ := hr
  obtain ⟨⟨c0, c1⟩, d1, d2, d3⟩ := hs
  simp only [List.cons.injEq, and_true] at e
  obtain ⟨e0, e1, e2, e3, e4⟩ := e
  have f0 := nme_inj a0 c0 e0
  have f1 := nme_inj a1 c1 e1
  have f2 := dig_inj _ (by omega) _ (by omega) e2
  have f3 := dig_inj _ (by omega) _ (by omega) e3
  have f4 := dig_inj _ (by omega) _ (by omega) e4
  obtain ⟨k0, k1, rr, m, j⟩ := r
  obtain ⟨l0, l1, ss, n, i⟩ := s
  simp only at *
  obtain rfl := f0
  obtain rfl := f1
  obtain rfl : rr = ss := by omega
  obtain rfl : m = n := by omega
  obtain rfl : j = i := by omega
  rfl
theorem all_mem {r : Ru} : r ∈ allRu ↔ kinds r ∧ ranges r := by
  unfold allRu kinds ranges
  simp only [List.mem_flatMap, List.mem_map, List.mem_range]
  constructor
  · rintro ⟨n, hn, a, ha, b, hb, c, hc, rfl⟩
    have : n / 3 ≤ 2 := by omega
    have : n % 3 ≤ 2 := by omega
    simp only
    omega
  · rintro ⟨⟨h0, h1⟩, h2, h3, h4⟩
    obtain ⟨k0, k1, rr, m, j⟩ := r
    simp only at *
    refine ⟨3 * (k0.toNat - 1) + (k1.toNat - 1), by omega, rr.toNat - 1, by omega, m.toNat, by omega, j.toNat, by omega, ?_⟩
    congr 1 <;> omega
end Go.Proofs.YtjageagnclmnjaaDoor.D
