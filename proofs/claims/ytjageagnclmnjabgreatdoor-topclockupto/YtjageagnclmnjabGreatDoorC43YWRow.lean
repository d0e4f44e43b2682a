/- PROVED: on plain lists: what a row of rivals tells of the last numbers. what add and best do to a row of rivals that lies in memory. CONDITIONS: none beyond each theorem's own. -/
import Derived.WalkKit
import Derived.Test.YtjageagnclmnjabGreatDoorC42YWSmall
import Derived.ArgAppend
import Derived.Deep.LoopGhost
section
namespace Go.Proofs.YtjageagnclmnjabGreatDoor.Y
set_option maxRecDepth 100000

/-- a beats b: less, if low; else greater -/
def bt (low : Bool) (a b : Int) : Bool := if low then decide (a < b) else decide (b < a)

/-- v is the best of the numbers f from place a up to b, b apart -/
def Best (low : Bool) (f : Nat → Int) (a b : Nat) (v : Int) : Prop :=
  (∃ j, a ≤ j ∧ j < b ∧ f j = v) ∧ ∀ j, a ≤ j → j < b → bt low (f j) v = false

theorem bt_tot {low : Bool} {a b : Int} (h : bt low a b = false) (k : bt low b a = false) : a = b := by
  cases low <;> simp [bt] at h k <;> omega
theorem bt_asym {low : Bool} {a b : Int} (h : bt low a b = true) : bt low b a = false := by
  cases low <;> simp [bt] at h ⊢ <;> omega
theorem bt_trans {low : Bool} {a b c : Int} (h : bt low a b = true) (k : bt low b c = true) : bt low a c = true := by
  cases low <;> simp [bt] at h k ⊢ <;> omega
/-- c is no better than b, b no better than a: c no better than a -/
theorem bt_le {low : Bool} {a b c : Int} (h : bt low b a = false) (k : bt low c b = false) : bt low c a = false := by
  cases low <;> simp [bt] at h k ⊢ <;> omega
theorem bt_self (low : Bool) (a : Int) : bt low a a = false := by cases low <;> simp [bt]
theorem Best.uniq {low : Bool} {f : Nat → Int} {a b : Nat} {u v : Int} (h : Best low f a b u) (k : Best low f a b v) : u = v := by
  obtain ⟨⟨i, hi, hi', rfl⟩, h2⟩ := h
  obtain ⟨⟨j, hj, hj', rfl⟩, k2⟩ := k
  exact bt_tot (k2 i hi hi') (h2 j hj hj')

theorem Best.congr {low : Bool} {f g : Nat → Int} {a b : Nat} {v : Int} (h : Best low f a b v) (e : ∀ j, a ≤ j → j < b → f j = g j) : Best low g a b v := by
  obtain ⟨⟨i, hi, hi', rfl⟩, h2⟩ := h
  exact ⟨⟨i, hi, hi', (e i hi hi').symm⟩, fun j hj hj' => by rw [← e j hj hj']; exact h2 j hj hj'⟩

/-- the rivals: places and values -/
abbrev Rs := List (Int × Int)

/-- how many stay, of the first k: from the end on those go that do not beat v -/
def stay (low : Bool) (rs : Rs) (v : Int) : Nat → Nat
  | 0 => 0
  | k + 1 => if bt low (rs.getD k (0, 0)).2 v then k + 1 else stay low rs v k

def addR (low : Bool) (rs : Rs) (p v : Int) : Rs := rs.take (stay low rs v rs.length) ++ [(p, v)]

theorem stay_le (low : Bool) (rs : Rs) (v : Int) (k : Nat) : stay low rs v k ≤ k := by
  induction k with
  | zero => simp [stay]
  | succ k ih => simp only [stay]; split <;> omega

theorem stay_step {low : Bool} {rs : Rs} {v : Int} {k : Nat} (h : bt low (rs.getD k (0, 0)).2 v = false) : stay low rs v (k + 1) = stay low rs v k := by
  simp only [stay, h]; rfl
theorem stay_stop {low : Bool} {rs : Rs} {v : Int} {k : Nat} (h : bt low (rs.getD k (0, 0)).2 v = true) : stay low rs v (k + 1) = k + 1 := by
  simp only [stay, h]; rfl

/-- the last that stays beats v; those that go do not -/
theorem stay_at (low : Bool) (rs : Rs) (v : Int) (k : Nat) :
    (∀ j, stay low rs v k ≤ j → j < k → bt low (rs.getD j (0, 0)).2 v = false) ∧
    (0 < stay low rs v k → bt low (rs.getD (stay low rs v k - 1) (0, 0)).2 v = true) := by
  induction k with
  | zero => exact ⟨fun j _ h => by omega, fun h => by simp [stay] at h⟩
  | succ k ih =>
    by_cases h : bt low (rs.getD k (0, 0)).2 v = true
    · rw [stay_stop h]
      exact ⟨fun j a b => by omega, fun _ => h⟩
    · have h' : bt low (rs.getD k (0, 0)).2 v = false := by simpa using h
      rw [stay_step h']
      refine ⟨fun j a b => ?_, ih.2⟩
      by_cases e : j = k
      · subst e; exact h'
      · exact ih.1 j a (by omega)

/-- WHAT A ROW OF RIVALS IS GOOD FOR: of the numbers f up to place k (k apart), from place lo on -/
structure Good (low : Bool) (f : Nat → Int) (lo k : Nat) (rs : Rs) : Prop where
  len : rs.length ≤ k
  mem : ∀ j, j < rs.length → ∃ p : Nat, (rs.getD j (0, 0)).1 = p ∧ p < k ∧ (rs.getD j (0, 0)).2 = f p
  last : 0 < k → 0 < rs.length ∧ (rs.getD (rs.length - 1) (0, 0)).1 = ((k - 1 : Nat) : Int)
  beats : ∀ i j, i < j → j < rs.length → bt low (rs.getD i (0, 0)).2 (rs.getD j (0, 0)).2 = true
  up : ∀ i j, i < j → j < rs.length → (rs.getD i (0, 0)).1 < (rs.getD j (0, 0)).1
  all : ∀ j, lo ≤ j → j < k → ∃ i, i < rs.length ∧ (j : Int) ≤ (rs.getD i (0, 0)).1 ∧ bt low (f j) (rs.getD i (0, 0)).2 = false

theorem Good.start (low : Bool) (f : Nat → Int) : Good low f 0 0 [] :=
  ⟨by simp, fun j h => by simp at h, fun h => by omega, fun i j _ h => by simp at h, fun i j _ h => by simp at h, fun j _ h => by omega⟩

theorem getD_snoc_lt (l : Rs) (x : Int × Int) (n : Nat) (j : Nat) (hn : n ≤ l.length) (h : j < n) : (l.take n ++ [x]).getD j (0, 0) = l.getD j (0, 0) := by
  rw [List.getD_eq_getElem?_getD, List.getD_eq_getElem?_getD, List.getElem?_append_left (by simp; omega), List.getElem?_take_of_lt h]
theorem getD_snoc_at (l : Rs) (x : Int × Int) (n : Nat) (hn : n ≤ l.length) : (l.take n ++ [x]).getD n (0, 0) = x := by
  rw [List.getD_eq_getElem?_getD, List.getElem?_append_right (by simp; omega)]
  simp [Nat.min_eq_left hn]

theorem length_addR (low : Bool) (rs : Rs) (p v : Int) : (addR low rs p v).length = stay low rs v rs.length + 1 := by
  have := stay_le low rs v rs.length
  simp [addR]; omega

theorem Good.add {low : Bool} {f : Nat → Int} {lo k : Nat} {rs : Rs} (h : Good low f lo k rs) : Good low f lo (k + 1) (addR low rs (k : Int) (f k)) := by
  have hle := stay_le low rs (f k) rs.length
  obtain ⟨s1, s2⟩ := stay_at low rs (f k) rs.length
  have hlen := length_addR low rs (k : Int) (f k)
  unfold addR at hlen ⊢
  generalize stay low rs (f k) rs.length = s at hle s1 s2 hlen ⊢
  have gl : ∀ j, j < s → (rs.take s ++ [((k : Int), f k)]).getD j (0, 0) = rs.getD j (0, 0) := fun j hj => getD_snoc_lt _ _ _ _ hle hj
  have gs : (rs.take s ++ [((k : Int), f k)]).getD s (0, 0) = ((k : Int), f k) := getD_snoc_at _ _ _ hle
  have hb : ∀ i, i < s → bt low (rs.getD i (0, 0)).2 (f k) = true := fun i hi => by
    have h2 := s2 (by omega)
    by_cases e : i = s - 1
    · rw [e]; exact h2
    · exact bt_trans (h.beats i (s - 1) (by omega) (by omega)) h2
  refine ⟨?_, ?_, ?_, ?_, ?_, ?_⟩
  · rw [hlen]; have := h.len; omega
  · intro j hj
    rw [hlen] at hj
    by_cases e : j = s
    · subst e; rw [gs]; exact ⟨k, rfl, by omega, rfl⟩
    · rw [gl j (by omega)]
      obtain ⟨p, a, b, c⟩ := h.mem j (by omega)
      exact ⟨p, a, by omega, c⟩
  · intro _
    rw [hlen]
    refine ⟨by omega, ?_⟩
    rw [show s + 1 - 1 = s by omega, gs]; simp
  · intro i j hij hj
    rw [hlen] at hj
    rw [gl i (by omega)]
    by_cases e : j = s
    · subst e; rw [gs]; exact hb i (by omega)
    · rw [gl j (by omega)]; exact h.beats i j hij (by omega)
  · intro i j hij hj
    rw [hlen] at hj
    rw [gl i (by omega)]
    by_cases e : j = s
    · subst e; rw [gs]
      obtain ⟨p, a, b, _⟩ := h.mem i (by omega)
      show _ < (k : Int)
      omega
    · rw [gl j (by omega)]; exact h.up i j hij (by omega)
  · intro j h1 h2
    rw [hlen]
    by_cases e : j = k
    · subst e; exact ⟨s, by omega, by rw [gs]; exact Int.le_refl _, by rw [gs]; exact bt_self _ _⟩
    · obtain ⟨i, a, b, c⟩ := h.all j h1 (by omega)
      by_cases hi : i < s
      · exact ⟨i, by omega, by rw [gl i hi]; exact b, by rw [gl i hi]; exact c⟩
      · refine ⟨s, by omega, by rw [gs]; show (j : Int) ≤ k; omega, ?_⟩
        rw [gs]
        show bt low (f j) (f k) = false
        exact bt_le (s1 i (by omega) a) c

/-- the front one, if it is too old, goes; the others are as good from there on -/
theorem Good.drop {low : Bool} {f : Nat → Int} {lo k : Nat} {r : Int × Int} {rs : Rs} (h : Good low f lo k (r :: rs)) (hne : rs ≠ []) {b : Nat} (hb : r.1 < (b : Int)) (hlo : lo ≤ b) : Good low f b k rs := by
  have g : ∀ j, (r :: rs).getD (j + 1) (0, 0) = rs.getD j (0, 0) := fun j => rfl
  have hp : 0 < rs.length := List.length_pos_iff.2 hne
  have hl := h.len
  simp only [List.length_cons] at hl
  refine ⟨by omega, fun j hj => ?_, fun hk => ?_, fun i j hij hj => ?_, fun i j hij hj => ?_, fun j h1 h2 => ?_⟩
  · have := h.mem (j + 1) (by simp; omega); rwa [g] at this
  · refine ⟨hp, ?_⟩
    have := (h.last hk).2
    simp only [List.length_cons] at this
    rw [show rs.length + 1 - 1 = (rs.length - 1) + 1 by omega, g] at this
    exact this
  · have := h.beats (i + 1) (j + 1) (by omega) (by simp; omega); rwa [g, g] at this
  · have := h.up (i + 1) (j + 1) (by omega) (by simp; omega); rwa [g, g] at this
  · obtain ⟨i, a, c, d⟩ := h.all j (by omega) h2
    cases i with
    | zero =>
      have c' : (j : Int) ≤ r.1 := c
      omega
    | succ i => exact ⟨i, by simpa using a, c, d⟩

/-- where the front one is not too old it is the best -/
theorem Good.front {low : Bool} {f : Nat → Int} {lo k : Nat} {r : Int × Int} {rs : Rs} (h : Good low f lo k (r :: rs)) {b : Nat} (hb : (b : Int) ≤ r.1) (hlo : lo ≤ b) : Best low f b k r.2 := by
  obtain ⟨p, e1, e2, e3⟩ := h.mem 0 (by simp)
  have e1' : r.1 = p := e1
  have e3' : r.2 = f p := e3
  refine ⟨⟨p, by omega, e2, e3'.symm⟩, fun j h1 h2 => ?_⟩
  obtain ⟨i, a, c, d⟩ := h.all j (by omega) h2
  cases i with
  | zero => exact d
  | succ i => exact bt_le (bt_asym (h.beats 0 (i + 1) (by omega) a)) d

/-- where the front one is not too old there are no more than there are places -/
theorem Good.count {low : Bool} {f : Nat → Int} {lo k : Nat} {r : Int × Int} {rs : Rs} (h : Good low f lo k (r :: rs)) {b : Nat} (hb : (b : Int) ≤ r.1) (hk : 0 < k) : (r :: rs).length ≤ k - b := by
  have hp : ∀ j, j < (r :: rs).length → (b : Int) + j ≤ ((r :: rs).getD j (0, 0)).1 := by
    intro j
    induction j with
    | zero => intro _; simpa using hb
    | succ j ih =>
      intro hj
      have := ih (by omega)
      have u := h.up j (j + 1) (by omega) hj
      omega
  have l := (h.last hk).2
  have q := hp ((r :: rs).length - 1) (by simp)
  rw [l] at q
  simp only [List.length_cons] at q ⊢
  omega

/-- a row whose begin is not behind its last holds one that is not too old -/
theorem Good.two {low : Bool} {f : Nat → Int} {lo k : Nat} {r : Int × Int} {rs : Rs} (h : Good low f lo k (r :: rs)) {b : Nat} (hb : r.1 < (b : Int)) (hk : b < k) : rs ≠ [] := by
  intro e
  subst e
  have := (h.last (by omega)).2
  have : r.1 = ((k - 1 : Nat) : Int) := this
  omega

end Go.Proofs.YtjageagnclmnjabGreatDoor.Y

end

section
namespace Go.Proofs.YtjageagnclmnjabGreatDoor.Y
set_option maxRecDepth 100000
open Go.RowKit

theorem Tryz.info51 : (Tryz.prog.info? 106).map (fun i => (i.zero, i.size, i.bytes)) = some (some (.agg #[.int .i64 0, .int .i64 0]), 2, 16) := by kernel_rfl

/-- the rivals rs lie from place off on in block g, behind them room up to cap -/
structure Lies (w : World) (g off cap : Nat) (rs : Rs) : Prop where
  le : rs.length ≤ cap
  small : cap ≤ maxLen
  p : ∀ j, j < rs.length → w.cell? ⟨g, off + j * 2, none⟩ = some (.int .i64 (rs.getD j (0, 0)).1)
  v : ∀ j, j < rs.length → w.cell? ⟨g, off + j * 2 + 1, none⟩ = some (.int .i64 (rs.getD j (0, 0)).2)
  room : ∀ i, i < 2 * cap → (w.cell? ⟨g, off + i, none⟩).isSome = true ∧ w.frozen? ⟨g, off + i, none⟩ = false

/-- the struct of the rivals in block P: who beats; the row -/
structure Riv (P : Nat) (bf : Value) (w : World) (ao : Option Addr) (cap : Nat) (rs : Rs) : Prop where
  size : P + 2 ≤ w.heap.size
  b : w.cell? ⟨P, 0, none⟩ = some bf
  l : w.cell? ⟨P, 1, none⟩ = some (.slice ao rs.length cap)
  f : w.frozen? ⟨P, 1, none⟩ = false
  row : (ao = none ∧ rs = [] ∧ cap = 0) ∨ ∃ g off, ao = some ⟨g, off, none⟩ ∧ P + 2 ≤ g ∧ g < w.heap.size ∧ Lies w g off cap rs

/-- nothing has turned below block P, nor in the one behind it -/
structure Keep (P : Nat) (w w' : World) : Prop where
  below : Below P w w'
  out : ∀ i, w'.cell? ⟨P + 1, i, none⟩ = w.cell? ⟨P + 1, i, none⟩ ∧ w'.frozen? ⟨P + 1, i, none⟩ = w.frozen? ⟨P + 1, i, none⟩

theorem cell_set_other {w : World} {b c i j : Nat} {u : Value} (h : b ≠ c) : (w.setCell ⟨b, i, none⟩ u).cell? ⟨c, j, none⟩ = w.cell? ⟨c, j, none⟩ :=
  World.cell?_setCell_other _ _ _ _ (fun e => h (congrArg Addr.block e))

theorem Lies.congr {w w' : World} {g off cap : Nat} {rs : Rs} (h : Lies w g off cap rs) (e : ∀ i, w'.cell? ⟨g, i, none⟩ = w.cell? ⟨g, i, none⟩ ∧ w'.frozen? ⟨g, i, none⟩ = w.frozen? ⟨g, i, none⟩) : Lies w' g off cap rs :=
  ⟨h.le, h.small, fun j hj => by rw [(e _).1]; exact h.p j hj, fun j hj => by rw [(e _).1]; exact h.v j hj, fun i hi => by rw [(e _).1, (e _).2]; exact h.room i hi⟩

theorem Lies.set {w : World} {g off cap : Nat} {rs : Rs} (h : Lies w g off cap rs) {P i : Nat} (u : Value) (hP : P ≠ g) : Lies (w.setCell ⟨P, i, none⟩ u) g off cap rs :=
  h.congr fun _ => ⟨cell_set_other hP, World.frozen?_setCell _ _ _ _⟩

theorem Lies.tail {w : World} {g off cap : Nat} {r : Int × Int} {rs : Rs} (h : Lies w g off cap (r :: rs)) : Lies w g (off + 2) (cap - 1) rs := by
  have hl : rs.length + 1 ≤ cap := by simpa using h.le
  refine ⟨by omega, by have := h.small; omega, fun j hj => ?_, fun j hj => ?_, fun i hi => ?_⟩
  · have := h.p (j + 1) (by simp; omega); rw [show off + (j + 1) * 2 = off + 2 + j * 2 by omega] at this; exact this
  · have := h.v (j + 1) (by simp; omega); rw [show off + (j + 1) * 2 = off + 2 + j * 2 by omega] at this; exact this
  · have := h.room (2 + i) (by omega); rw [show off + (2 + i) = off + 2 + i by omega] at this; exact this

theorem Riv.drop {P : Nat} {bf : Value} {w : World} {g off cap : Nat} {r : Int × Int} {rs : Rs} (h : Riv P bf w (some ⟨g, off, none⟩) cap (r :: rs)) :
    Riv P bf (w.setCell ⟨P, 1, none⟩ (.slice (some ⟨g, off + 2, none⟩) rs.length (cap - 1))) (some ⟨g, off + 2, none⟩) (cap - 1) rs := by
  refine ⟨by simpa using h.size, ?_, World.cell?_setCell_same _ _ _ h.l, by rw [World.frozen?_setCell]; exact h.f, .inr ?_⟩
  · rw [World.cell?_setCell_other _ _ _ _ (fun e => by cases e)]; exact h.b
  · rcases h.row with ⟨e, _⟩ | ⟨g', off', e, h1, h2, hL⟩
    · cases e
    · cases e
      exact ⟨g, off + 2, rfl, h1, by simpa using h2, hL.tail.set _ (by omega)⟩

theorem Keep.refl (P : Nat) (w : World) : Keep P w w := ⟨Below.refl _ _, fun _ => ⟨rfl, rfl⟩⟩
theorem Keep.trans {P : Nat} {a b c : World} (h : Keep P a b) (k : Keep P b c) : Keep P a c :=
  ⟨h.below.trans k.below, fun i => ⟨(k.out i).1.trans (h.out i).1, (k.out i).2.trans (h.out i).2⟩⟩
theorem Keep.set {P i : Nat} {a w : World} (h : Keep P a w) (u : Value) : Keep P a (w.setCell ⟨P, i, none⟩ u) :=
  h.trans ⟨(Below.refl P w).setCell (p := ⟨P, i, none⟩) (Nat.le_refl P) u, fun _ => ⟨cell_set_other (by omega), World.frozen?_setCell _ _ _ _⟩⟩

theorem Good.later {low : Bool} {f : Nat → Int} {lo k b : Nat} {rs : Rs} (h : Good low f lo k rs) (hb : lo ≤ b) : Good low f b k rs :=
  ⟨h.len, h.mem, h.last, h.beats, h.up, fun j h1 h2 => h.all j (by omega) h2⟩

set_option maxHeartbeats 800000 in
theorem best_any (P : Nat) (bf : Value) (ao : Option Addr) (cap : Nat) (rs : Rs) (low : Bool) (f : Nat → Int) (lo k b : Nat) (w : World)
    (h : Riv P bf w ao cap rs) (hg : Good low f lo k rs) (hlo : lo ≤ b) (hb : b < k) (hk : k ≤ 35184372088832) :
    Calls Tryz.prog 52 #[.pointer (some ⟨P, 0, none⟩), .int .i64 b] w fun e w' => ∃ v, e = .returned (.int .i64 v) ∧ Best low f b k v ∧ ∃ ao' cap' rs', Riv P bf w' ao' cap' rs' ∧ Good low f b k rs' ∧ Keep P w w' ∧ rs'.length ≤ k - b := by
  go_enter Tryz.func52, Tryz.ntmps52
  go_wp2
  go_loopg [] rs.length (fun n wr => ∃ ao' cap' rs' lo', rs'.length = n ∧ lo' ≤ b ∧ Riv P bf wr ao' cap' rs' ∧ Good low f lo' k rs' ∧ Keep P w wr)
  case atStart => exact ⟨ao, cap, rs, lo, rfl, hlo, h, hg, ⟨Below.refl _ _, fun _ => ⟨rfl, rfl⟩⟩⟩
  case round =>
    obtain ⟨ao', cap', rs', lo', hn, hlo', hR, hG, hK⟩ := hrel
    obtain ⟨r, rs', rfl⟩ : ∃ r t, rs' = r :: t := by
      cases rs' with
      | nil => have := (hG.last (by omega)).1; simp at this
      | cons r t => exact ⟨r, t, rfl⟩
    obtain ⟨g, off, rfl, hg1, hg2, hL⟩ : ∃ g off, ao' = some ⟨g, off, none⟩ ∧ P + 2 ≤ g ∧ g < wr.heap.size ∧ Lies wr g off cap' (r :: rs') := by
      rcases hR.row with ⟨_, e, _⟩ | e
      · cases e
      · exact e
    have c1 := hR.l
    have f1 := hR.f
    have p0 := hL.p 0 (by simp)
    have v0 := hL.v 0 (by simp)
    simp only [Nat.zero_mul, Nat.add_zero, List.getD_cons_zero, List.length_cons] at c1 p0 v0
    have hsz : rs'.length + 1 ≤ cap' := by simpa using hL.le
    have hcm := hL.small
    unfold maxLen at hcm
    by_cases hlt : r.1 < (b : Int)
    · have hne := hG.two hlt hb
      have hp : 0 < rs'.length := List.length_pos_iff.2 hne
      go_wp2
      go_roundg rs'.length
      case measure => simp at hn; omega
      case rel => exact ⟨_, _, rs', b, rfl, Nat.le_refl _, hR.drop, hG.drop hne hlt hlo', hK.set _⟩
    · go_wp2
      go_ret
      exact ⟨r.2, rfl, hG.front (by omega) hlo', _, _, _, hR, hG.later hlo', hK, hG.count (by omega) (by omega)⟩

end Go.Proofs.YtjageagnclmnjabGreatDoor.Y

end
