/- PROVED: what steady's States, Lead and Graph answer; alive19. graphs on plain numbers: walks, what they weigh, the most of walks of so many edges, potentials or a way round that weighs more than nothing. climbing on plain numbers: going over all edges again and again, what is left of it is the most that walks weigh, or leads back along a way round that weighs more than nothing. CONDITIONS: none beyond each theorem's own. -/
import Derived.Test.YtjageagnclmnjabGreatDoorB27Sea
import Derived.Test.YtjageagnclmnjabGreatDoorB29Lea
import Derived.Test.YtjageagnclmnjabGreatDoorB30Gra
namespace Go.Proofs.YtjageagnclmnjabGreatDoor.D
set_option maxRecDepth 100000
theorem srS : SrSome := sr_some search_any
theorem srF : SrFull := sr_full search_any
theorem ldS : LdFresh := ld_of srS
theorem grS : GrSome := gr_some srS
theorem grF : GrFull := gr_full srF
end Go.Proofs.YtjageagnclmnjabGreatDoor.D

namespace Go.Proofs.YtjageagnclmnjabGreatDoor.Q

/-- an edge: from, to, weight -/
structure Eg where
  f : Nat
  t : Nat
  x : Int
/-- what edges weigh together -/
def wt : List Eg → Int
  | [] => 0
  | e :: l => e.x + wt l
theorem wt_append (a b : List Eg) : wt (a ++ b) = wt a + wt b := by
  induction a with
  | nil => simp [wt]
  | cons e l ih => simp only [List.cons_append, wt, ih]; omega
/-- l leads from u to v -/
def Path (es : List Eg) : Nat → List Eg → Nat → Prop
  | u, [], v => u = v
  | u, e :: l, v => e ∈ es ∧ e.f = u ∧ Path es e.t l v
theorem path_append {es : List Eg} {a b : List Eg} {u v : Nat} : Path es u (a ++ b) v ↔ ∃ m, Path es u a m ∧ Path es m b v := by
  induction a generalizing u with
  | nil => exact ⟨fun h => ⟨u, rfl, h⟩, fun ⟨m, h1, h2⟩ => by cases h1; exact h2⟩
  | cons e l ih =>
    constructor
    · rintro ⟨h1, h2, h3⟩
      obtain ⟨m, g1, g2⟩ := ih.1 h3
      exact ⟨m, ⟨h1, h2, g1⟩, g2⟩
    · rintro ⟨m, ⟨h1, h2, g1⟩, g2⟩
      exact ⟨h1, h2, ih.2 ⟨m, g1, g2⟩⟩
theorem path_one {es : List Eg} {e : Eg} (h : e ∈ es) : Path es e.f [e] e.t := ⟨h, rfl, rfl⟩

/-- one edge more -/
def relax (es : List Eg) (g : Nat → Int) (v : Nat) : Int := es.foldl (fun acc e => if e.t = v then max acc (g e.f + e.x) else acc) (g v)
theorem fold_ge (es : List Eg) (g : Nat → Int) (v : Nat) (a : Int) : a ≤ es.foldl (fun acc e => if e.t = v then max acc (g e.f + e.x) else acc) a := by
  induction es generalizing a with
  | nil => exact Int.le_refl _
  | cons e l ih =>
    rw [List.foldl_cons]
    refine Int.le_trans ?_ (ih _)
    split <;> omega
theorem fold_edge (es : List Eg) (g : Nat → Int) (v : Nat) (a : Int) (e : Eg) (h : e ∈ es) (ht : e.t = v) : g e.f + e.x ≤ es.foldl (fun acc e => if e.t = v then max acc (g e.f + e.x) else acc) a := by
  induction es generalizing a with
  | nil => cases h
  | cons d l ih =>
    rw [List.foldl_cons]
    rcases List.mem_cons.1 h with rfl | h
    · rw [if_pos ht]
      exact Int.le_trans (by omega) (fold_ge l g v _)
    · exact ih _ h
theorem fold_is (es : List Eg) (g : Nat → Int) (v : Nat) (a : Int) : es.foldl (fun acc e => if e.t = v then max acc (g e.f + e.x) else acc) a = a ∨ ∃ e ∈ es, e.t = v ∧ es.foldl (fun acc e => if e.t = v then max acc (g e.f + e.x) else acc) a = g e.f + e.x := by
  induction es generalizing a with
  | nil => exact .inl rfl
  | cons d l ih =>
    rw [List.foldl_cons]
    by_cases ht : d.t = v
    · rw [if_pos ht]
      rcases ih (max a (g d.f + d.x)) with h | ⟨e, he, h1, h2⟩
      · rw [h]
        by_cases hm : g d.f + d.x ≤ a
        · exact .inl (by omega)
        · exact .inr ⟨d, by simp, ht, by omega⟩
      · exact .inr ⟨e, by simp [he], h1, h2⟩
    · rw [if_neg ht]
      rcases ih a with h | ⟨e, he, h1, h2⟩
      · exact .inl h
      · exact .inr ⟨e, by simp [he], h1, h2⟩
/-- the most that a walk of up to k edges weighs that ends at v -/
def mo (es : List Eg) : Nat → Nat → Int
  | 0, _ => 0
  | k + 1, v => relax es (mo es k) v
theorem mo_up (es : List Eg) (k v : Nat) : mo es k v ≤ mo es (k + 1) v := fold_ge es _ v _
theorem mo_edge {es : List Eg} {e : Eg} (h : e ∈ es) (k : Nat) : mo es k e.f + e.x ≤ mo es (k + 1) e.t := fold_edge es _ _ _ e h rfl
theorem mo_nonneg (es : List Eg) (k v : Nat) : 0 ≤ mo es k v := by
  induction k with
  | zero => exact Int.le_refl _
  | succ k ih => exact Int.le_trans ih (mo_up es k v)
theorem mo_mono (es : List Eg) {k j : Nat} (h : k ≤ j) (v : Nat) : mo es k v ≤ mo es j v := by
  induction h with
  | refl => exact Int.le_refl _
  | step _ ih => exact Int.le_trans ih (mo_up es _ v)
/-- no walk of so many edges weighs more -/
theorem mo_most {es : List Eg} {u v : Nat} {l : List Eg} (k j : Nat) (h : Path es u l v) (hl : l.length ≤ k) : mo es j u + wt l ≤ mo es (j + k) v := by
  induction l generalizing u j k with
  | nil =>
    have hv : u = v := h
    subst hv
    simp only [wt]
    have := mo_mono es (Nat.le_add_right j k) u
    omega
  | cons e l ih =>
    obtain ⟨h1, rfl, h3⟩ := h
    obtain ⟨k, rfl⟩ : ∃ k', k = k' + 1 := ⟨k - 1, by simp at hl; omega⟩
    have := ih k (j + 1) h3 (by simpa using hl)
    have := mo_edge h1 j
    simp only [wt]
    rw [show j + (k + 1) = j + 1 + k by omega]
    omega
/-- some walk does -/
theorem mo_got (es : List Eg) (k v : Nat) : ∃ u l, Path es u l v ∧ l.length ≤ k ∧ wt l = mo es k v := by
  induction k generalizing v with
  | zero => exact ⟨v, [], rfl, Nat.le_refl _, rfl⟩
  | succ k ih =>
    rcases fold_is es (mo es k) v (mo es k v) with h | ⟨e, he, ht, h⟩
    · obtain ⟨u, l, h1, h2, h3⟩ := ih v
      exact ⟨u, l, h1, by omega, h3.trans h.symm⟩
    · obtain ⟨u, l, h1, h2, h3⟩ := ih e.f
      refine ⟨u, l ++ [e], path_append.2 ⟨e.f, h1, he, rfl, ht⟩, by simp; omega, ?_⟩
      rw [wt_append, h3]
      show mo es k e.f + (e.x + 0) = _
      rw [Int.add_zero]
      exact h.symm

/-- no way round weighs more than nothing -/
def noPos (es : List Eg) : Prop := ∀ u l, Path es u l u → wt l ≤ 0
/-- potentials: along each edge they rise by what it weighs at least -/
def Pots (es : List Eg) (m : Nat → Int) : Prop := ∀ e ∈ es, m e.f + e.x ≤ m e.t
theorem pots_walk {es : List Eg} {m : Nat → Int} (hm : Pots es m) {u v : Nat} {l : List Eg} (h : Path es u l v) : m u + wt l ≤ m v := by
  induction l generalizing u with
  | nil => cases h; simp [wt]
  | cons e l ih =>
    obtain ⟨h1, rfl, h3⟩ := h
    have := ih h3
    have := hm e h1
    simp only [wt]
    omega
theorem pots_noPos {es : List Eg} {m : Nat → Int} (hm : Pots es m) : noPos es := fun u l h => by have := pots_walk hm h; omega
theorem still_pots {es : List Eg} {k : Nat} (h : ∀ e ∈ es, mo es (k + 1) e.t = mo es k e.t) : Pots es (mo es k) := fun e he => by have := mo_edge he k; rw [h e he] at this; exact this

/-- so many different numbers below n -/
theorem nodup_len (n : Nat) : ∀ l : List Nat, l.Nodup → (∀ x ∈ l, x < n) → l.length ≤ n := by
  induction n with
  | zero =>
    intro l _ h
    cases l with
    | nil => exact Nat.le_refl _
    | cons x l => exact absurd (h x (by simp)) (by omega)
  | succ n ih =>
    intro l hd h
    by_cases hn : n ∈ l
    · have h1 := ih (l.erase n) (hd.erase n) (fun x hx => by
        have h2 := h x (List.mem_of_mem_erase hx)
        have h3 : x ≠ n := fun e => by subst e; exact (hd.not_mem_erase) hx
        omega)
      rw [List.length_erase_of_mem hn] at h1
      omega
    · have := ih l hd (fun x hx => by have := h x hx; have : x ≠ n := fun e => hn (e ▸ hx); omega)
      omega
/-- a walk that comes to x -/
theorem reach {es : List Eg} {u v x : Nat} {l : List Eg} (h : Path es u l v) (hx : x ∈ l.map (·.t)) : ∃ c b, l = c ++ b ∧ c ≠ [] ∧ Path es u c x ∧ Path es x b v := by
  induction l generalizing u with
  | nil => simp at hx
  | cons e l ih =>
    obtain ⟨h1, h2, h3⟩ := h
    by_cases hc : x = e.t
    · subst hc
      exact ⟨[e], l, rfl, by simp, ⟨h1, h2, rfl⟩, h3⟩
    · obtain ⟨c, b, rfl, _, g1, g2⟩ := ih h3 (by simpa [hc] using hx)
      exact ⟨e :: c, b, rfl, by simp, ⟨h1, h2, g1⟩, g2⟩
/-- a walk that comes to a node twice has a way round in it -/
theorem turns {es : List Eg} {u v : Nat} {l : List Eg} (h : Path es u l v) (hd : ¬ (u :: l.map (·.t)).Nodup) : ∃ a c b m, l = a ++ c ++ b ∧ c ≠ [] ∧ Path es u a m ∧ Path es m c m ∧ Path es m b v := by
  induction l generalizing u with
  | nil => exact absurd (by simp) hd
  | cons e l ih =>
    by_cases hu : u ∈ (e :: l).map (·.t)
    · obtain ⟨c, b, e1, hc, g1, g2⟩ := reach h hu
      exact ⟨[], c, b, u, by rw [e1]; rfl, hc, rfl, g1, g2⟩
    · obtain ⟨h1, h2, h3⟩ := h
      have hd2 : ¬ (e.t :: l.map (·.t)).Nodup := fun q => hd (List.nodup_cons.2 ⟨hu, q⟩)
      obtain ⟨a, c, b, m, rfl, hc, g1, g2, g3⟩ := ih h3 hd2
      exact ⟨e :: a, c, b, m, rfl, hc, ⟨h1, h2, g1⟩, g2, g3⟩
/-- nodes are below n -/
def Inn (n : Nat) (es : List Eg) : Prop := ∀ e ∈ es, e.f < n ∧ e.t < n
theorem path_in {n : Nat} {es : List Eg} (hn : Inn n es) {u v : Nat} {l : List Eg} (h : Path es u l v) : ∀ x ∈ l.map (·.t), x < n := by
  induction l generalizing u with
  | nil => intro x hx; simp at hx
  | cons e l ih =>
    obtain ⟨h1, h2, h3⟩ := h
    intro x hx
    rcases List.mem_cons.1 hx with rfl | hx
    · exact (hn e h1).2
    · exact ih h3 x hx
/-- where no way round weighs more than nothing, a walk of fewer edges than nodes weighs as much -/
theorem short {n : Nat} {es : List Eg} (hn : Inn n es) (hp : noPos es) : ∀ (k : Nat) (u v : Nat) (l : List Eg), l.length ≤ k → Path es u l v → ∃ l', Path es u l' v ∧ l'.length ≤ n ∧ wt l ≤ wt l' := by
  intro k
  induction k with
  | zero => intro u v l hl h; exact ⟨l, h, by omega, Int.le_refl _⟩
  | succ k ih =>
    intro u v l hl h
    by_cases hs : l.length ≤ n
    · exact ⟨l, h, hs, Int.le_refl _⟩
    · have hd : ¬ (u :: l.map (·.t)).Nodup := fun q => by
        have := nodup_len n (l.map (·.t)) (List.nodup_cons.1 q).2 (path_in hn h)
        rw [List.length_map] at this
        omega
      obtain ⟨a, c, b, m, rfl, hc, g1, g2, g3⟩ := turns h hd
      have hc1 : 0 < c.length := List.length_pos_iff.2 hc
      have h0 := hp m c g2
      obtain ⟨l', h1, h2, h3⟩ := ih u v (a ++ b) (by simp at hl ⊢; omega) (path_append.2 ⟨m, g1, g3⟩)
      refine ⟨l', h1, h2, ?_⟩
      rw [wt_append] at h3
      rw [wt_append, wt_append]
      omega
/-- EITHER THERE IS A BOUND, OR A WAY ROUND -/
theorem still_iff {n : Nat} {es : List Eg} (hn : Inn n es) : (∃ k, k ≤ n ∧ ∀ e ∈ es, mo es (k + 1) e.t = mo es k e.t) ↔ noPos es := by
  constructor
  · rintro ⟨k, _, h⟩
    exact pots_noPos (still_pots h)
  · intro hp
    refine ⟨n, Nat.le_refl _, fun e _ => ?_⟩
    have h1 := mo_up es n e.t
    obtain ⟨u, l, g1, g2, g3⟩ := mo_got es (n + 1) e.t
    obtain ⟨l', q1, q2, q3⟩ := short hn hp _ u e.t l (Nat.le_refl _) g1
    have := mo_most n 0 q1 q2
    have hz : mo es 0 u = 0 := rfl
    rw [Nat.zero_add, hz] at this
    omega
end Go.Proofs.YtjageagnclmnjabGreatDoor.Q

namespace Go.Proofs.YtjageagnclmnjabGreatDoor.Q

/-- the i-th edge -/
def eg (es : List Eg) (i : Nat) : Eg := es.getD i ⟨0, 0, 0⟩
theorem eg_mem {es : List Eg} {i : Nat} (h : i < es.length) : eg es i ∈ es := by
  unfold eg
  rw [List.getD_eq_getElem?_getD, List.getElem?_eq_getElem h]
  exact List.getElem_mem h
theorem mem_eg {es : List Eg} {e : Eg} (h : e ∈ es) : ∃ i, i < es.length ∧ eg es i = e := by
  obtain ⟨i, hi, rfl⟩ := List.getElem_of_mem h
  exact ⟨i, hi, by unfold eg; rw [List.getD_eq_getElem?_getD, List.getElem?_eq_getElem hi]; rfl⟩
/-- weights are in range -/
def Wgt (es : List Eg) : Prop := ∀ e ∈ es, -1048576 ≤ e.x ∧ e.x ≤ 1048576

/-- what is known: the most so far, the last edge, what was raised -/
structure St where
  d : Nat → Int
  l : Nat → Int
  r : Int
def upd (d : Nat → Int) (v : Nat) (x : Int) : Nat → Int := fun j => if j = v then x else d j
theorem upd_same (d : Nat → Int) (v : Nat) (x : Int) : upd d v x v = x := if_pos rfl
theorem upd_other (d : Nat → Int) (v : Nat) (x : Int) (j : Nat) (h : j ≠ v) : upd d v x j = d j := if_neg h
def stp (s : St) (i : Nat) (e : Eg) : St := if s.d e.t < s.d e.f + e.x then ⟨upd s.d e.t (s.d e.f + e.x), upd s.l e.t i, e.t⟩ else s
theorem stp_yes {s : St} {i : Nat} {e : Eg} (h : s.d e.t < s.d e.f + e.x) : stp s i e = ⟨upd s.d e.t (s.d e.f + e.x), upd s.l e.t i, e.t⟩ := if_pos h
theorem stp_no {s : St} {i : Nat} {e : Eg} (h : ¬ s.d e.t < s.d e.f + e.x) : stp s i e = s := if_neg h
/-- behind the first i edges of a pass -/
def pst (es : List Eg) (s : St) : Nat → St
  | 0 => ⟨s.d, s.l, -1⟩
  | i + 1 => stp (pst es s i) i (eg es i)
/-- behind k passes -/
def cst (es : List Eg) : Nat → St
  | 0 => ⟨fun _ => 0, fun _ => -1, -1⟩
  | k + 1 => pst es (cst es k) es.length

/-- what holds in pass k behind i edges: P: in which pass each was raised last; T: when -/
structure Gh (n : Nat) (es : List Eg) (k i : Nat) (s : St) (P T : Nat → Nat) (tt : Nat) : Prop where
  lo : ∀ v, 0 ≤ s.d v
  hi : ∀ v, s.d v ≤ (tt : Int) * 1048576
  tl : ∀ v, T v ≤ tt
  pk : ∀ v, P v ≤ k
  la : ∀ v, (s.l v = -1 ∧ P v = 0) ∨ ∃ q, q < es.length ∧ s.l v = (q : Int) ∧ (eg es q).t = v ∧ 1 ≤ P v ∧ P v ≤ P (eg es q).f + 1 ∧ s.d v ≤ s.d (eg es q).f + (eg es q).x ∧ (s.d v < s.d (eg es q).f + (eg es q).x ∨ T (eg es q).f < T v)
  ed : ∀ j, j < i → j < es.length → s.d (eg es j).f + (eg es j).x ≤ s.d (eg es j).t ∨ k ≤ P (eg es j).f
  eo : ∀ j, i ≤ j → j < es.length → s.d (eg es j).f + (eg es j).x ≤ s.d (eg es j).t ∨ k ≤ P (eg es j).f + 1
  rr : (s.r = -1 ∧ (1 ≤ k → ∀ v, P v < k)) ∨ ∃ v : Nat, v < n ∧ s.r = (v : Int) ∧ P v = k
  wk : ∀ v, ∃ u l, Path es u l v ∧ wt l = s.d v

theorem Gh.start (n : Nat) (es : List Eg) : Gh n es 0 es.length (cst es 0) (fun _ => 0) (fun _ => 0) 0 where
  lo := fun v => Int.le_refl _
  hi := fun v => by show (0 : Int) ≤ _; omega
  tl := fun v => Nat.le_refl _
  pk := fun v => Nat.le_refl _
  la := fun v => .inl ⟨rfl, rfl⟩
  ed := fun j _ _ => .inr (Nat.le_refl _)
  eo := fun j h1 h2 => by omega
  rr := .inl ⟨rfl, fun h => by omega⟩
  wk := fun v => ⟨v, [], rfl, rfl⟩

theorem Gh.next {n : Nat} {es : List Eg} {k : Nat} {s : St} {P T : Nat → Nat} {tt : Nat} (h : Gh n es k es.length s P T tt) : Gh n es (k + 1) 0 ⟨s.d, s.l, -1⟩ P T tt where
  lo := h.lo
  hi := h.hi
  tl := h.tl
  pk := fun v => Nat.le_succ_of_le (h.pk v)
  la := h.la
  ed := fun j h1 _ => by omega
  eo := fun j _ h2 => by
    rcases h.ed j h2 h2 with q | q
    · exact .inl q
    · exact .inr (by omega)
  rr := .inl ⟨rfl, fun _ v => by have := h.pk v; omega⟩
  wk := h.wk

theorem Gh.step {n : Nat} {es : List Eg} {k i : Nat} {s : St} {P T : Nat → Nat} {tt : Nat} (h : Gh n es k i s P T tt) (hn : Inn n es) (hw : Wgt es) (hk : 1 ≤ k) (hi : i < es.length) :
    ∃ P' T', Gh n es k (i + 1) (stp s i (eg es i)) P' T' (tt + 1) := by
  have hm := eg_mem hi
  have hn1 := hn _ hm
  have hw1 := hw _ hm
  by_cases hr : s.d (eg es i).t < s.d (eg es i).f + (eg es i).x
  · rw [stp_yes hr]
    obtain ⟨e, he⟩ : ∃ e, eg es i = e := ⟨_, rfl⟩
    rw [he] at hr hm hn1 hw1 ⊢
    have hP : k ≤ P e.f + 1 := by
      rcases h.eo i (Nat.le_refl _) hi with q | q
      · rw [he] at q; omega
      · rw [he] at q; exact q
    refine ⟨fun v => if v = e.t then k else P v, fun v => if v = e.t then tt + 1 else T v, ?_⟩
    have up : ∀ v, s.d v ≤ upd s.d e.t (s.d e.f + e.x) v := fun v => by
      unfold upd; split
      · rename_i q; subst q; omega
      · omega
    have pu : ∀ v, P v ≤ (if v = e.t then k else P v) := fun v => by
      split
      · exact h.pk v
      · exact Nat.le_refl _
    constructor
    · intro v; exact Int.le_trans (h.lo v) (up v)
    · intro v
      show upd s.d e.t (s.d e.f + e.x) v ≤ _
      have := h.hi v
      have := h.hi e.f
      unfold upd
      split <;> omega
    · intro v
      show (if v = e.t then tt + 1 else T v) ≤ _
      have := h.tl v
      split <;> omega
    · intro v
      show (if v = e.t then k else P v) ≤ _
      have := h.pk v
      split <;> omega
    · intro v
      show (upd s.l e.t i v = -1 ∧ (if v = e.t then k else P v) = 0) ∨ ∃ q, q < es.length ∧ upd s.l e.t i v = (q : Int) ∧ (eg es q).t = v ∧ 1 ≤ (if v = e.t then k else P v) ∧ (if v = e.t then k else P v) ≤ (if (eg es q).f = e.t then k else P (eg es q).f) + 1 ∧ upd s.d e.t (s.d e.f + e.x) v ≤ upd s.d e.t (s.d e.f + e.x) (eg es q).f + (eg es q).x ∧ (upd s.d e.t (s.d e.f + e.x) v < upd s.d e.t (s.d e.f + e.x) (eg es q).f + (eg es q).x ∨ (if (eg es q).f = e.t then tt + 1 else T (eg es q).f) < (if v = e.t then tt + 1 else T v))
      by_cases hv : v = e.t
      · subst hv
        right
        refine ⟨i, hi, upd_same _ _ _, by rw [he], by rw [if_pos rfl]; exact hk, ?_, ?_, ?_⟩
        · rw [if_pos rfl, he]; have := pu e.f; omega
        · rw [upd_same, he]; have := up e.f; omega
        · rw [upd_same, he, if_pos rfl]
          by_cases hf : e.f = e.t
          · left; rw [hf, upd_same]; rw [hf] at hr; omega
          · right; rw [if_neg hf]; have := h.tl e.f; omega
      · rcases h.la v with ⟨g1, g2⟩ | ⟨q, g1, g2, g3, g4, g5, g6, g7⟩
        · left; exact ⟨by rw [upd_other _ _ _ _ hv]; exact g1, by rw [if_neg hv]; exact g2⟩
        · right
          refine ⟨q, g1, by rw [upd_other _ _ _ _ hv]; exact g2, g3, by rw [if_neg hv]; exact g4, ?_, ?_, ?_⟩
          · rw [if_neg hv]; have := pu (eg es q).f; omega
          · rw [upd_other _ _ _ _ hv]; have := up (eg es q).f; omega
          · rw [upd_other _ _ _ _ hv, if_neg hv]
            by_cases hf : (eg es q).f = e.t
            · left; rw [hf, upd_same]; rw [hf] at g6; omega
            · rw [upd_other _ _ _ _ hf, if_neg hf]; exact g7
    · intro j hj hl
      show upd s.d e.t (s.d e.f + e.x) (eg es j).f + (eg es j).x ≤ upd s.d e.t (s.d e.f + e.x) (eg es j).t ∨ k ≤ (if (eg es j).f = e.t then k else P (eg es j).f)
      by_cases hf : (eg es j).f = e.t
      · right; rw [if_pos hf]; exact Nat.le_refl _
      · rw [if_neg hf, upd_other _ _ _ _ hf]
        by_cases hji : j = i
        · subst hji; left; rw [he, upd_same]; exact Int.le_refl _
        · rcases h.ed j (by omega) hl with q | q
          · left; have := up (eg es j).t; omega
          · exact .inr q
    · intro j hj hl
      show upd s.d e.t (s.d e.f + e.x) (eg es j).f + (eg es j).x ≤ upd s.d e.t (s.d e.f + e.x) (eg es j).t ∨ k ≤ (if (eg es j).f = e.t then k else P (eg es j).f) + 1
      by_cases hf : (eg es j).f = e.t
      · right; rw [if_pos hf]; omega
      · rw [if_neg hf, upd_other _ _ _ _ hf]
        rcases h.eo j (by omega) hl with q | q
        · left; have := up (eg es j).t; omega
        · exact .inr q
    · right; exact ⟨e.t, hn1.2, rfl, if_pos rfl⟩
    · intro v
      show ∃ u l, Path es u l v ∧ wt l = upd s.d e.t (s.d e.f + e.x) v
      by_cases hv : v = e.t
      · subst hv
        obtain ⟨u, l, g1, g2⟩ := h.wk e.f
        refine ⟨u, l ++ [e], path_append.2 ⟨e.f, g1, hm, rfl, rfl⟩, ?_⟩
        rw [wt_append, g2, upd_same]
        simp [wt]
      · rw [upd_other _ _ _ _ hv]; exact h.wk v
  · rw [stp_no hr]
    refine ⟨P, T, h.lo, fun v => ?_, fun v => ?_, h.pk, h.la, fun j hj hl => ?_, fun j hj hl => h.eo j (by omega) hl, h.rr, h.wk⟩
    · have := h.hi v; omega
    · have := h.tl v; omega
    · by_cases hji : j = i
      · subst hji; left; omega
      · exact h.ed j (by omega) hl

theorem pst_gh {n : Nat} {es : List Eg} (hn : Inn n es) (hw : Wgt es) {k : Nat} {P T : Nat → Nat} {tt : Nat} (h : Gh n es k es.length (cst es k) P T tt) :
    ∀ i, i ≤ es.length → ∃ P T, Gh n es (k + 1) i (pst es (cst es k) i) P T (tt + i) := by
  intro i
  induction i with
  | zero => intro _; exact ⟨P, T, h.next⟩
  | succ i ih =>
    intro hi
    obtain ⟨P1, T1, h1⟩ := ih (by omega)
    exact h1.step hn hw (by omega) (by omega)
theorem cst_gh {n : Nat} {es : List Eg} (hn : Inn n es) (hw : Wgt es) : ∀ k, ∃ P T, Gh n es k es.length (cst es k) P T (k * es.length) := by
  intro k
  induction k with
  | zero => exact ⟨_, _, by rw [Nat.zero_mul]; exact Gh.start n es⟩
  | succ k ih =>
    obtain ⟨P, T, h⟩ := ih
    have := pst_gh hn hw h es.length (Nat.le_refl _)
    rw [Nat.succ_mul]
    exact this
/-- nothing goes beyond -/
theorem pst_range {n : Nat} {es : List Eg} (hn : Inn n es) (hw : Wgt es) (hl : es.length ≤ 4800) {k i : Nat} (hk : k ≤ 300) (hi : i ≤ es.length) (v : Nat) : 0 ≤ (pst es (cst es k) i).d v ∧ (pst es (cst es k) i).d v ≤ 1514982604800 := by
  obtain ⟨P, T, h⟩ := cst_gh hn hw k
  obtain ⟨P1, T1, h1⟩ := pst_gh hn hw h i hi
  refine ⟨h1.lo v, Int.le_trans (h1.hi v) ?_⟩
  have : k * es.length ≤ 300 * 4800 := Nat.mul_le_mul hk hl
  omega
/-- what m holds at v is the most that a walk weighs that ends there -/
def Mst (es : List Eg) (m : Nat → Int) : Prop := Pots es m ∧ (∀ v, 0 ≤ m v) ∧ ∀ v, ∃ u l, Path es u l v ∧ wt l = m v
theorem Mst.same {es : List Eg} {m m' : Nat → Int} (h : Mst es m) (h' : Mst es m') (v : Nat) : m v = m' v := by
  have a : ∀ {m m' : Nat → Int}, Mst es m → Mst es m' → m v ≤ m' v := fun {m m'} h h' => by
    obtain ⟨u, l, g1, g2⟩ := h.2.2 v
    have := pots_walk h'.1 g1
    have := h'.2.1 u
    omega
  have := a h h'
  have := a h' h
  omega
theorem Mst.noPos {es : List Eg} {m : Nat → Int} (h : Mst es m) : noPos es := pots_noPos h.1
theorem cst_mst {n : Nat} {es : List Eg} (hn : Inn n es) (hw : Wgt es) {k : Nat} (hk : 1 ≤ k ∨ n = 0) (hr : (cst es k).r = -1) : Mst es (cst es k).d := by
  obtain ⟨P, T, h⟩ := cst_gh hn hw k
  refine ⟨fun e he => ?_, h.lo, h.wk⟩
  rcases hk with hk | hk
  · obtain ⟨i, hi, rfl⟩ := mem_eg he
    rcases h.rr with ⟨_, q⟩ | ⟨v, _, q, _⟩
    · rcases h.ed i hi hi with g | g
      · exact g
      · have := q hk (eg es i).f; omega
    · omega
  · have := (hn e he).1; omega

/-- back along last edges, t times -/
def nd (es : List Eg) (s : St) (v : Nat) : Nat → Nat
  | 0 => v
  | t + 1 => (eg es (s.l (nd es s v t)).toNat).f

/-- among n + 1 numbers below n two are the same -/
theorem twice (n : Nat) (f : Nat → Nat) (h : ∀ t, t ≤ n → f t < n) : ∃ i p, 1 ≤ p ∧ i + p ≤ n ∧ f (i + p) = f i := by
  apply Classical.byContradiction
  intro q
  have hd : ((List.range (n + 1)).map f).Nodup := by
    rw [List.Nodup, List.pairwise_map]
    refine List.Pairwise.imp_of_mem (R := (· < ·)) (fun {a b} ha hb hab => ?_) (List.pairwise_lt_range)
    intro e
    have hb := List.mem_range.1 hb
    refine q ⟨a, b - a, by omega, by omega, ?_⟩
    rw [show a + (b - a) = b by omega]; exact e.symm
  have := nodup_len n _ hd (fun x hx => by
    obtain ⟨t, ht, rfl⟩ := List.mem_map.1 hx
    exact h t (by have := List.mem_range.1 ht; omega))
  simp at this
  omega
/-- the first such number -/
theorem first (Q : Nat → Prop) (p : Nat) (h1 : 1 ≤ p) (h : Q p) : ∃ p', 1 ≤ p' ∧ p' ≤ p ∧ Q p' ∧ ∀ q, 1 ≤ q → q < p' → ¬ Q q := by
  induction p using Nat.strongRecOn with
  | _ p ih =>
    by_cases hq : ∃ q, 1 ≤ q ∧ q < p ∧ Q q
    · obtain ⟨q, g1, g2, g3⟩ := hq
      obtain ⟨p', k1, k2, k3, k4⟩ := ih q g2 g1 g3
      exact ⟨p', k1, by omega, k3, k4⟩
    · exact ⟨p, h1, Nat.le_refl _, h, fun q g1 g2 g3 => hq ⟨q, g1, g2, g3⟩⟩

/-- what the numbers of a walk weigh together -/
def nsum (es : List Eg) (R : Nat → Nat) : Nat → Int
  | 0 => 0
  | j + 1 => nsum es R j + (eg es (R j)).x

/-- from v last edges lead back and round: p edges, of which c tells the numbers -/
structure Rnd (n : Nat) (es : List Eg) (s : St) (v p : Nat) : Prop where
  rv : s.r = (v : Int)
  vn : v < n
  hn : ∀ t, nd es s v t < n
  hl : ∀ t, ∃ q : Nat, s.l (nd es s v t) = (q : Int) ∧ q < es.length ∧ (eg es q).t = nd es s v t ∧ (eg es q).f = nd es s v (t + 1)
  p1 : 1 ≤ p
  pn : p ≤ n
  back : nd es s v (n + p) = nd es s v n
  fst : ∀ q, 1 ≤ q → q < p → nd es s v (n + q) ≠ nd es s v n
  pos : 0 < nsum es (fun j => (s.l (nd es s v (n + (p - 1 - j)))).toNat) p

theorem cst_rnd {n : Nat} {es : List Eg} (hn : Inn n es) (hw : Wgt es) (hr : (cst es n).r ≠ -1) : ∃ v p, Rnd n es (cst es n) v p := by
  obtain ⟨P, T, h⟩ := cst_gh hn hw n
  generalize cst es n = s at h hr
  rcases h.rr with q | ⟨v, hv, e, hp⟩
  · exact absurd q.1 hr
  have one : ∀ x, 1 ≤ P x → ∃ q, q < es.length ∧ s.l x = (q : Int) ∧ (eg es q).t = x ∧ P x ≤ P (eg es q).f + 1 ∧ s.d x ≤ s.d (eg es q).f + (eg es q).x ∧ (s.d x < s.d (eg es q).f + (eg es q).x ∨ T (eg es q).f < T x) := fun x hx => by
    rcases h.la x with g | ⟨q, g1, g2, g3, _, g5, g6, g7⟩
    · omega
    · exact ⟨q, g1, g2, g3, g5, g6, g7⟩
  have go : ∀ x (q : Nat), s.l x = (q : Int) → (eg es (s.l x).toNat).f = (eg es q).f := fun x q g => by rw [g]; rfl
  have hP : ∀ t, t ≤ n → n ≤ P (nd es s v t) + t ∧ nd es s v t < n := by
    intro t
    induction t with
    | zero => intro _; exact ⟨by show n ≤ P v + 0; omega, hv⟩
    | succ t ih =>
      intro ht
      obtain ⟨g1, g2⟩ := ih (by omega)
      obtain ⟨q, k1, k2, k3, k4, _⟩ := one (nd es s v t) (by omega)
      have e1 : nd es s v (t + 1) = (eg es q).f := go _ q k2
      rw [e1]
      exact ⟨by omega, (hn _ (eg_mem k1)).1⟩
  obtain ⟨i, p, hp1, hip, hb⟩ := twice n (nd es s v) fun t ht => (hP t ht).2
  have per : ∀ t, i ≤ t → nd es s v (t + p) = nd es s v t := by
    intro t ht
    obtain ⟨a, rfl⟩ : ∃ a, t = i + a := ⟨t - i, by omega⟩
    clear ht
    induction a with
    | zero => exact hb
    | succ a ih =>
      rw [show i + (a + 1) + p = (i + a + p) + 1 by omega, show i + (a + 1) = (i + a) + 1 by omega]
      show (eg es (s.l (nd es s v (i + a + p))).toNat).f = (eg es (s.l (nd es s v (i + a))).toNat).f
      rw [ih]
  have low : ∀ t, ∃ t', t' < n ∧ nd es s v t = nd es s v t' := by
    intro t
    induction t using Nat.strongRecOn with
    | _ t ih =>
      by_cases ht : t < n
      · exact ⟨t, ht, rfl⟩
      · obtain ⟨t', g1, g2⟩ := ih (t - p) (by omega)
        refine ⟨t', g1, ?_⟩
        rw [← g2, ← per (t - p) (by omega), show t - p + p = t by omega]
  have all : ∀ t, 1 ≤ P (nd es s v t) := fun t => by
    obtain ⟨t', g1, g2⟩ := low t
    rw [g2]
    have := (hP t' (by omega)).1
    omega
  obtain ⟨p', q1, q2, q3, q4⟩ := first (fun p => nd es s v (n + p) = nd es s v n) p hp1 (per n (by omega))
  refine ⟨v, p', e, hv, fun t => ?_, fun t => ?_, q1, by omega, q3, q4, ?_⟩
  · obtain ⟨t', g1, g2⟩ := low t
    rw [g2]; exact (hP t' (by omega)).2
  · obtain ⟨q, k1, k2, k3, _⟩ := one _ (all t)
    exact ⟨q, k2, k1, k3, (go _ q k2).symm⟩
  · have tel : ∀ j, j ≤ p' → s.d (nd es s v (n + (p' - j))) ≤ s.d (nd es s v (n + p')) + nsum es (fun j => (s.l (nd es s v (n + (p' - 1 - j)))).toNat) j ∧ (1 ≤ j → s.d (nd es s v (n + (p' - j))) < s.d (nd es s v (n + p')) + nsum es (fun j => (s.l (nd es s v (n + (p' - 1 - j)))).toNat) j ∨ T (nd es s v (n + p')) < T (nd es s v (n + (p' - j)))) := by
      intro j
      induction j with
      | zero => intro _; exact ⟨by rw [Nat.sub_zero]; show _ ≤ _ + 0; omega, fun h => by omega⟩
      | succ j ih =>
        intro hj
        obtain ⟨g1, g2⟩ := ih (by omega)
        obtain ⟨q, k1, k2, k3, _, k5, k6⟩ := one _ (all (n + (p' - (j + 1))))
        have e1 : nd es s v (n + (p' - j)) = (eg es q).f := by
          rw [show n + (p' - j) = n + (p' - (j + 1)) + 1 by omega]; exact go _ q k2
        have e2 : nsum es (fun j => (s.l (nd es s v (n + (p' - 1 - j)))).toNat) (j + 1) = nsum es (fun j => (s.l (nd es s v (n + (p' - 1 - j)))).toNat) j + (eg es q).x := by
          show _ + (eg es (s.l (nd es s v (n + (p' - 1 - j)))).toNat).x = _
          rw [show n + (p' - 1 - j) = n + (p' - (j + 1)) by omega, k2]; rfl
        rw [e2]
        rw [← e1] at k5 k6
        refine ⟨by omega, fun _ => ?_⟩
        rcases k6 with k6 | k6
        · left; omega
        · rcases Nat.eq_zero_or_pos j with rfl | hj0
          · right; rw [Nat.sub_zero] at k6; exact k6
          · rcases g2 hj0 with g2 | g2
            · left; omega
            · right; omega
    obtain ⟨_, t2⟩ := tel p' (Nat.le_refl _)
    have := t2 q1
    rw [Nat.sub_self, Nat.add_zero, q3] at this
    omega

/-- numbers that are a walk -/
def Wok (es : List Eg) (R : Nat → Nat) (p : Nat) : Prop := ∀ j, j < p → R j < es.length ∧ (0 < j → (eg es (R j)).f = (eg es (R (j - 1))).t)
theorem wok_path {es : List Eg} {R : Nat → Nat} {p : Nat} (h : Wok es R p) (j : Nat) (hj : j < p) : ∃ l, Path es (eg es (R 0)).f l (eg es (R j)).t ∧ wt l = nsum es R (j + 1) := by
  induction j with
  | zero => exact ⟨[eg es (R 0)], path_one (eg_mem (h 0 hj).1), by simp [wt, nsum]⟩
  | succ j ih =>
    obtain ⟨l, g1, g2⟩ := ih (by omega)
    obtain ⟨k1, k2⟩ := h (j + 1) hj
    refine ⟨l ++ [eg es (R (j + 1))], path_append.2 ⟨_, g1, eg_mem k1, k2 (by omega), rfl⟩, ?_⟩
    rw [wt_append, g2]
    simp [wt, nsum]
theorem Rnd.wok {n : Nat} {es : List Eg} {s : St} {v p : Nat} (h : Rnd n es s v p) : Wok es (fun j => (s.l (nd es s v (n + (p - 1 - j)))).toNat) p := fun j hj => by
  obtain ⟨q, g1, g2, g3, g4⟩ := h.hl (n + (p - 1 - j))
  have e : (s.l (nd es s v (n + (p - 1 - j)))).toNat = q := by rw [g1]; rfl
  refine ⟨by show (s.l (nd es s v (n + (p - 1 - j)))).toNat < _; rw [e]; exact g2, fun hj0 => ?_⟩
  show (eg es (s.l (nd es s v (n + (p - 1 - j)))).toNat).f = (eg es (s.l (nd es s v (n + (p - 1 - (j - 1))))).toNat).t
  obtain ⟨q', k1, k2, k3, k4⟩ := h.hl (n + (p - 1 - (j - 1)))
  rw [e, g4, k1]
  show _ = (eg es q').t
  rw [k3, show n + (p - 1 - j) + 1 = n + (p - 1 - (j - 1)) by omega]
theorem Rnd.ends {n : Nat} {es : List Eg} {s : St} {v p : Nat} (h : Rnd n es s v p) : (eg es (s.l (nd es s v (n + (p - 1 - 0)))).toNat).f = (eg es (s.l (nd es s v (n + (p - 1 - (p - 1))))).toNat).t := by
  obtain ⟨q, g1, g2, g3, g4⟩ := h.hl (n + (p - 1 - 0))
  obtain ⟨q', k1, k2, k3, k4⟩ := h.hl (n + (p - 1 - (p - 1)))
  rw [g1, k1]
  show (eg es q).f = (eg es q').t
  have := h.p1
  rw [g4, k3, show n + (p - 1 - 0) + 1 = n + p by omega, h.back, Nat.sub_self, Nat.add_zero]
theorem Rnd.some {n : Nat} {es : List Eg} {s : St} {v p : Nat} (h : Rnd n es s v p) : ¬ noPos es := fun q => by
  have p1 := h.p1
  obtain ⟨l, g1, g2⟩ := wok_path h.wok (p - 1) (by omega)
  have e := h.ends
  have g1' : Path es (eg es (s.l (nd es s v (n + (p - 1 - 0)))).toNat).f l (eg es (s.l (nd es s v (n + (p - 1 - (p - 1))))).toNat).t := g1
  rw [← e] at g1'
  have := q _ _ g1'
  rw [g2, show p - 1 + 1 = p by omega] at this
  have := h.pos
  omega
end Go.Proofs.YtjageagnclmnjabGreatDoor.Q
