/- PROVED: what steady's States, Lead and Graph answer; alive19. graphs on plain numbers: walks, what they weigh, the most of walks of so many edges, potentials or a way round that weighs more than nothing. CONDITIONS: none beyond each theorem's own. -/
import Derived.Test.YtjageagnclmnjaaGreatDoorX29Sea
import Derived.Test.YtjageagnclmnjaaGreatDoorX31Lea
import Derived.Test.YtjageagnclmnjaaGreatDoorX32Gra
namespace Go.Proofs.YtjageagnclmnjaaGreatDoor.D
set_option maxRecDepth 100000
theorem srS : SrSome := sr_some search_any
theorem srF : SrFull := sr_full search_any
theorem ldS : LdFresh := ld_of srS
theorem grS : GrSome := gr_some srS
theorem grF : GrFull := gr_full srF
end Go.Proofs.YtjageagnclmnjaaGreatDoor.D

namespace Go.Proofs.YtjageagnclmnjaaGreatDoor.Q

/-- an edge: from, to, weight -/
structure Eg where
  f : Nat
  t : Nat
  x : Int
/-- what edges weigh together -/
def wt : List Eg → Int
  | [] => 0
  | e :: l => e.x + wt l
theorem wt_append (a b : List Eg) : wt (a ++ b) = wt a + wt b := by
  induction a with
  | nil => simp [wt]
  | cons e l ih => simp only [List.cons_append, wt, ih]; omega
/-- l leads from u to v -/
def Path (es : List Eg) : Nat → List Eg → Nat → Prop
  | u, [], v => u = v
  | u, e :: l, v => e ∈ es ∧ e.f = u ∧ Path es e.t l v
theorem path_append {es : List Eg} {a b : List Eg} {u v : Nat} : Path es u (a ++ b) v ↔ ∃ m, Path es u a m ∧ Path es m b v := by
  induction a generalizing u with
  | nil => exact ⟨fun h => ⟨u, rfl, h⟩, fun ⟨m, h1, h2⟩ => by cases h1; exact h2⟩
  | cons e l ih =>
    constructor
    · rintro ⟨h1, h2, h3⟩
      obtain ⟨m, g1, g2⟩ := ih.1 h3
      exact ⟨m, ⟨h1, h2, g1⟩, g2⟩
    · rintro ⟨m, ⟨h1, h2, g1⟩, g2⟩
      exact ⟨h1, h2, ih.2 ⟨m, g1, g2⟩⟩
theorem path_one {es : List Eg} {e : Eg} (h : e ∈ es) : Path es e.f [e] e.t := ⟨h, rfl, rfl⟩

/-- one edge more -/
def relax (es : List Eg) (g : Nat → Int) (v : Nat) : Int := es.foldl (fun acc e => if e.t = v then max acc (g e.f + e.x) else acc) (g v)
theorem fold_ge (es : List Eg) (g : Nat → Int) (v : Nat) (a : Int) : a ≤ es.foldl (fun acc e => if e.t = v then max acc (g e.f + e.x) else acc) a := by
  induction es generalizing a with
  | nil => exact Int.le_refl _
  | cons e l ih =>
    rw [List.foldl_cons]
    refine Int.le_trans ?_ (ih _)
    split <;> omega
theorem fold_edge (es : List Eg) (g : Nat → Int) (v : Nat) (a : Int) (e : Eg) (h : e ∈ es) (ht : e.t = v) : g e.f + e.x ≤ es.foldl (fun acc e => if e.t = v then max acc (g e.f + e.x) else acc) a := by
  induction es generalizing a with
  | nil => cases h
  | cons d l ih =>
    rw [List.foldl_cons]
    rcases List.mem_cons.1 h with rfl | h
    · rw [if_pos ht]
      exact Int.le_trans (by omega) (fold_ge l g v _)
    · exact ih _ h
theorem fold_is (es : List Eg) (g : Nat → Int) (v : Nat) (a : Int) : es.foldl (fun acc e => if e.t = v then max acc (g e.f + e.x) else acc) a = a ∨ ∃ e ∈ es, e.t = v ∧ es.foldl (fun acc e => if e.t = v then max acc (g e.f + e.x) else acc) a = g e.f + e.x := by
  induction es generalizing a with
  | nil => exact .inl rfl
  | cons d l ih =>
    rw [List.foldl_cons]
    by_cases ht : d.t = v
    · rw [if_pos ht]
      rcases ih (max a (g d.f + d.x)) with h | ⟨e, he, h1, h2⟩
      · rw [h]
        by_cases hm : g d.f + d.x ≤ a
        · exact .inl (by omega)
        · exact .inr ⟨d, by simp, ht, by omega⟩
      · exact .inr ⟨e, by simp [he], h1, h2⟩
    · rw [if_neg ht]
      rcases ih a with h | ⟨e, he, h1, h2⟩
      · exact .inl h
      · exact .inr ⟨e, by simp [he], h1, h2⟩
/-- the most that a walk of up to k edges weighs that ends at v -/
def mo (es : List Eg) : Nat → Nat → Int
  | 0, _ => 0
  | k + 1, v => relax es (mo es k) v
theorem mo_up (es : List Eg) (k v : Nat) : mo es k v ≤ mo es (k + 1) v := fold_ge es _ v _
theorem mo_edge {es : List Eg} {e : Eg} (h : e ∈ es) (k : Nat) : mo es k e.f + e.x ≤ mo es (k + 1) e.t := fold_edge es _ _ _ e h rfl
theorem mo_nonneg (es : List Eg) (k v : Nat) : 0 ≤ mo es k v := by
  induction k with
  | zero => exact Int.le_refl _
  | succ k ih => exact Int.le_trans ih (mo_up es k v)
theorem mo_mono (es : List Eg) {k j : Nat} (h : k ≤ j) (v : Nat) : mo es k v ≤ mo es j v := by
  induction h with
  | refl => exact Int.le_refl _
  | step _ ih => exact Int.le_trans ih (mo_up es _ v)
/-- no walk of so many edges weighs more -/
theorem mo_most {es : List Eg} {u v : Nat} {l : List Eg} (k j : Nat) (h : Path es u l v) (hl : l.length ≤ k) : mo es j u + wt l ≤ mo es (j + k) v := by
  induction l generalizing u j k with
  | nil =>
    have hv : u = v := h
    subst hv
    simp only [wt]
    have := mo_mono es (Nat.le_add_right j k) u
    omega
  | cons e l ih =>
    obtain ⟨h1, rfl, h3⟩ := h
    obtain ⟨k, rfl⟩ : ∃ k', k = k' + 1 := ⟨k - 1, by simp at hl; omega⟩
    have := ih k (j + 1) h3 (by simpa using hl)
    have := mo_edge h1 j
    simp only [wt]
    rw [show j + (k + 1) = j + 1 + k by omega]
    omega
/-- some walk does -/
theorem mo_got (es : List Eg) (k v : Nat) : ∃ u l, Path es u l v ∧ l.length ≤ k ∧ wt l = mo es k v := by
  induction k generalizing v with
  | zero => exact ⟨v, [], rfl, Nat.le_refl _, rfl⟩
  | succ k ih =>
    rcases fold_is es (mo es k) v (mo es k v) with h | ⟨e, he, ht, h⟩
    · obtain ⟨u, l, h1, h2, h3⟩ := ih v
      exact ⟨u, l, h1, by omega, h3.trans h.symm⟩
    · obtain ⟨u, l, h1, h2, h3⟩ := ih e.f
      refine ⟨u, l ++ [e], path_append.2 ⟨e.f, h1, he, rfl, ht⟩, by simp; omega, ?_⟩
      rw [wt_append, h3]
      show mo es k e.f + (e.x + 0) = _
      rw [Int.add_zero]
      exact h.symm

/-- no way round weighs more than nothing -/
def noPos (es : List Eg) : Prop := ∀ u l, Path es u l u → wt l ≤ 0
/-- potentials: along each edge they rise by what it weighs at least -/
def Pots (es : List Eg) (m : Nat → Int) : Prop := ∀ e ∈ es, m e.f + e.x ≤ m e.t
theorem pots_walk {es : List Eg} {m : Nat → Int} (hm : Pots es m) {u v : Nat} {l : List Eg} (h : Path es u l v) : m u + wt l ≤ m v := by
  induction l generalizing u with
  | nil => cases h; simp [wt]
  | cons e l ih =>
    obtain ⟨h1, rfl, h3⟩ := h
    have := ih h3
    have := hm e h1
    simp only [wt]
    omega
theorem pots_noPos {es : List Eg} {m : Nat → Int} (hm : Pots es m) : noPos es := fun u l h => by have := pots_walk hm h; omega
theorem still_pots {es : List Eg} {k : Nat} (h : ∀ e ∈ es, mo es (k + 1) e.t = mo es k e.t) : Pots es (mo es k) := fun e he => by have := mo_edge he k; rw [h e he] at this; exact this

/-- so many different numbers below n -/
theorem nodup_len (n : Nat) : ∀ l : List Nat, l.Nodup → (∀ x ∈ l, x < n) → l.length ≤ n := by
  induction n with
  | zero =>
    intro l _ h
    cases l with
    | nil => exact Nat.le_refl _
    | cons x l => exact absurd (h x (by simp)) (by omega)
  | succ n ih =>
    intro l hd h
    by_cases hn : n ∈ l
    · have h1 := ih (l.erase n) (hd.erase n) (fun x hx => by
        have h2 := h x (List.mem_of_mem_erase hx)
        have h3 : x ≠ n := fun e => by subst e; exact (hd.not_mem_erase) hx
        omega)
      rw [List.length_erase_of_mem hn] at h1
      omega
    · have := ih l hd (fun x hx => by have := h x hx; have : x ≠ n := fun e => hn (e ▸ hx); omega)
      omega
/-- a walk that comes to x -/
theorem reach {es : List Eg} {u v x : Nat} {l : List Eg} (h : Path es u l v) (hx : x ∈ l.map (·.t)) : ∃ c b, l = c ++ b ∧ c ≠ [] ∧ Path es u c x ∧ Path es x b v := by
  induction l generalizing u with
  | nil => simp at hx
  | cons e l ih =>
    obtain ⟨h1, h2, h3⟩ := h
    by_cases hc : x = e.t
    · subst hc
      exact ⟨[e], l, rfl, by simp, ⟨h1, h2, rfl⟩, h3⟩
    · obtain ⟨c, b, rfl, _, g1, g2⟩ := ih h3 (by simpa [hc] using hx)
      exact ⟨e :: c, b, rfl, by simp, ⟨h1, h2, g1⟩, g2⟩
/-- a walk that comes to a node twice has a way round in it -/
theorem turns {es : List Eg} {u v : Nat} {l : List Eg} (h : Path es u l v) (hd : ¬ (u :: l.map (·.t)).Nodup) : ∃ a c b m, l = a ++ c ++ b ∧ c ≠ [] ∧ Path es u a m ∧ Path es m c m ∧ Path es m b v := by
  induction l generalizing u with
  | nil => exact absurd (by simp) hd
  | cons e l ih =>
    by_cases hu : u ∈ (e :: l).map (·.t)
    · obtain ⟨c, b, e1, hc, g1, g2⟩ := reach h hu
      exact ⟨[], c, b, u, by rw [e1]; rfl, hc, rfl, g1, g2⟩
    · obtain ⟨h1, h2, h3⟩ := h
      have hd2 : ¬ (e.t :: l.map (·.t)).Nodup := fun q => hd (List.nodup_cons.2 ⟨hu, q⟩)
      obtain ⟨a, c, b, m, rfl, hc, g1, g2, g3⟩ := ih h3 hd2
      exact ⟨e :: a, c, b, m, rfl, hc, ⟨h1, h2, g1⟩, g2, g3⟩
/-- nodes are below n -/
def Inn (n : Nat) (es : List Eg) : Prop := ∀ e ∈ es, e.f < n ∧ e.t < n
theorem path_in {n : Nat} {es : List Eg} (hn : Inn n es) {u v : Nat} {l : List Eg} (h : Path es u l v) : ∀ x ∈ l.map (·.t), x < n := by
  induction l generalizing u with
  | nil => intro x hx; simp at hx
  | cons e l ih =>
    obtain ⟨h1, h2, h3⟩ := h
    intro x hx
    rcases List.mem_cons.1 hx with rfl | hx
    · exact (hn e h1).2
    · exact ih h3 x hx
/-- where no way round weighs more than nothing, a walk of fewer edges than nodes weighs as much -/
theorem short {n : Nat} {es : List Eg} (hn : Inn n es) (hp : noPos es) : ∀ (k : Nat) (u v : Nat) (l : List Eg), l.length ≤ k → Path es u l v → ∃ l', Path es u l' v ∧ l'.length ≤ n ∧ wt l ≤ wt l' := by
  intro k
  induction k with
  | zero => intro u v l hl h; exact ⟨l, h, by omega, Int.le_refl _⟩
  | succ k ih =>
    intro u v l hl h
    by_cases hs : l.length ≤ n
    · exact ⟨l, h, hs, Int.le_refl _⟩
    · have hd : ¬ (u :: l.map (·.t)).Nodup := fun q => by
        have := nodup_len n (l.map (·.t)) (List.nodup_cons.1 q).2 (path_in hn h)
        rw [List.length_map] at this
        omega
      obtain ⟨a, c, b, m, rfl, hc, g1, g2, g3⟩ := turns h hd
      have hc1 : 0 < c.length := List.length_pos_iff.2 hc
      have h0 := hp m c g2
      obtain ⟨l', h1, h2, h3⟩ := ih u v (a ++ b) (by simp at hl ⊢; omega) (path_append.2 ⟨m, g1, g3⟩)
      refine ⟨l', h1, h2, ?_⟩
      rw [wt_append] at h3
      rw [wt_append, wt_append]
      omega
/-- EITHER THERE IS A BOUND, OR A WAY ROUND -/
theorem still_iff {n : Nat} {es : List Eg} (hn : Inn n es) : (∃ k, k ≤ n ∧ ∀ e ∈ es, mo es (k + 1) e.t = mo es k e.t) ↔ noPos es := by
  constructor
  · rintro ⟨k, _, h⟩
    exact pots_noPos (still_pots h)
  · intro hp
    refine ⟨n, Nat.le_refl _, fun e _ => ?_⟩
    have h1 := mo_up es n e.t
    obtain ⟨u, l, g1, g2, g3⟩ := mo_got es (n + 1) e.t
    obtain ⟨l', q1, q2, q3⟩ := short hn hp _ u e.t l (Nat.le_refl _) g1
    have := mo_most n 0 q1 q2
    have hz : mo es 0 u = 0 := rfl
    rw [Nat.zero_add, hz] at this
    omega
end Go.Proofs.YtjageagnclmnjaaGreatDoor.Q
