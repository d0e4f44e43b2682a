/- PROVED: what link.Pass answers. CONDITIONS: none beyond each theorem's own. -/
import Derived.Test.YtjageagnclmnjabGreatDoorB21KInv
namespace Go.Proofs.YtjageagnclmnjabGreatDoor.K
open Go.RowKit Go.Shelf

attribute [local go_sem] Oper.semAt_some

theorem right_is (r m a b s t : Int) (B : Bool) (h : decide (lr r m a b s t) = B) (w : World) :
    Calls Tryz.prog 139 #[.int .i64 r, .int .i64 m, .agg #[.int .i64 a, .int .i64 b], .agg #[.int .i64 s, .int .i64 t]] w fun e w' => e = .returned (.bool B) ∧ w' = (w.alloc (.cells #[.int .i64 a, .int .i64 b] 67)).alloc (.cells #[.int .i64 s, .int .i64 t] 67) := by
  subst h; exact right_any r m a b s t w

/-- what lies there when l has come -/
def In (w : World) (r m s t : Nat) (l : List Bool) (W : World) : Prop := At w r m s t l.length (ca r false l) (ca r true l) (lo r m false l) (lo r m true l) (wt r m false l) (wt r m true l) W

theorem In.came0 {w W : World} {r m s t : Nat} {l : List Bool} (h : In w r m s t l W) (hp : l.length < r) (N : Nat) :
    KeepsFrom N W ((W.setCell ⟨w.heap.size + 1 + 1 + 1 + 1 + 1 + 1 + 1 + 1, 2, none⟩ (.int .i64 (ca r false l + 1))).setCell ⟨w.heap.size + 1 + 1 + 1 + 1 + 1 + 1 + 1 + 1 + 1 + 1, 0, none⟩ (.int .i64 ((l.length : Int) + 1))) ∧ Keep (w.heap.size + 1 + 1 + 1 + 1 + 1 + 1 + 1 + 1 + 1 + 1 + 1) (w.heap.size + 1 + 1 + 1 + 1 + 1 + 1 + 1 + 1 + 1 + 1 + 1 + 1) W ((W.setCell ⟨w.heap.size + 1 + 1 + 1 + 1 + 1 + 1 + 1 + 1, 2, none⟩ (.int .i64 (ca r false l + 1))).setCell ⟨w.heap.size + 1 + 1 + 1 + 1 + 1 + 1 + 1 + 1 + 1 + 1, 0, none⟩ (.int .i64 ((l.length : Int) + 1))) ∧ In w r m s t (l ++ [false]) ((W.setCell ⟨w.heap.size + 1 + 1 + 1 + 1 + 1 + 1 + 1 + 1, 2, none⟩ (.int .i64 (ca r false l + 1))).setCell ⟨w.heap.size + 1 + 1 + 1 + 1 + 1 + 1 + 1 + 1 + 1 + 1, 0, none⟩ (.int .i64 ((l.length : Int) + 1))) := by
  have hR := h.1.2.2.1
  have hA := h.1.2.2.2.1
  have e : In w r m s t (l ++ [false]) = At w r m s t ((l.length : Int) + 1) (ca r false l + 1) (ca r true l) (lo r m false l) (lo r m true l) (wt r m false l) (wt r m true l) := by
    funext V
    unfold In
    rw [ca_snoc, ca_snoc, lo_snoc, lo_snoc, wt_snoc, wt_snoc, List.length_append]
    simp [show ¬ (r ≤ l.length) by omega, show ¬ (r + m ≤ l.length) by omega, hp]
  rw [e]
  exact At.put h _ _ _ (by omega) (hR.set2 _) (hA.far (by omega) _) N _ rfl
theorem In.came1 {w W : World} {r m s t : Nat} {l : List Bool} (h : In w r m s t l W) (hp : l.length < r) (N : Nat) :
    KeepsFrom N W ((W.setCell ⟨w.heap.size + 1 + 1 + 1 + 1 + 1 + 1 + 1 + 1, 3, none⟩ (.int .i64 (ca r true l + 1))).setCell ⟨w.heap.size + 1 + 1 + 1 + 1 + 1 + 1 + 1 + 1 + 1 + 1, 0, none⟩ (.int .i64 ((l.length : Int) + 1))) ∧ Keep (w.heap.size + 1 + 1 + 1 + 1 + 1 + 1 + 1 + 1 + 1 + 1 + 1) (w.heap.size + 1 + 1 + 1 + 1 + 1 + 1 + 1 + 1 + 1 + 1 + 1 + 1) W ((W.setCell ⟨w.heap.size + 1 + 1 + 1 + 1 + 1 + 1 + 1 + 1, 3, none⟩ (.int .i64 (ca r true l + 1))).setCell ⟨w.heap.size + 1 + 1 + 1 + 1 + 1 + 1 + 1 + 1 + 1 + 1, 0, none⟩ (.int .i64 ((l.length : Int) + 1))) ∧ In w r m s t (l ++ [true]) ((W.setCell ⟨w.heap.size + 1 + 1 + 1 + 1 + 1 + 1 + 1 + 1, 3, none⟩ (.int .i64 (ca r true l + 1))).setCell ⟨w.heap.size + 1 + 1 + 1 + 1 + 1 + 1 + 1 + 1 + 1 + 1, 0, none⟩ (.int .i64 ((l.length : Int) + 1))) := by
  have hR := h.1.2.2.1
  have hA := h.1.2.2.2.1
  have e : In w r m s t (l ++ [true]) = At w r m s t ((l.length : Int) + 1) (ca r false l) (ca r true l + 1) (lo r m false l) (lo r m true l) (wt r m false l) (wt r m true l) := by
    funext V
    unfold In
    rw [ca_snoc, ca_snoc, lo_snoc, lo_snoc, wt_snoc, wt_snoc, List.length_append]
    simp [show ¬ (r ≤ l.length) by omega, show ¬ (r + m ≤ l.length) by omega, hp]
  rw [e]
  exact At.put h _ _ _ (by omega) (hR.set3 _) (hA.far (by omega) _) N _ rfl
theorem In.wait0 {w W : World} {r m s t : Nat} {l : List Bool} (h : In w r m s t l W) (hp : ¬ l.length < r) (hq : l.length < r + m) (N : Nat) :
    KeepsFrom N W ((W.setCell ⟨w.heap.size + 1 + 1 + 1 + 1 + 1 + 1 + 1 + 1 + 1, 0, none⟩ (.int .i64 (wt r m false l + 1))).setCell ⟨w.heap.size + 1 + 1 + 1 + 1 + 1 + 1 + 1 + 1 + 1 + 1, 0, none⟩ (.int .i64 ((l.length : Int) + 1))) ∧ Keep (w.heap.size + 1 + 1 + 1 + 1 + 1 + 1 + 1 + 1 + 1 + 1 + 1) (w.heap.size + 1 + 1 + 1 + 1 + 1 + 1 + 1 + 1 + 1 + 1 + 1 + 1) W ((W.setCell ⟨w.heap.size + 1 + 1 + 1 + 1 + 1 + 1 + 1 + 1 + 1, 0, none⟩ (.int .i64 (wt r m false l + 1))).setCell ⟨w.heap.size + 1 + 1 + 1 + 1 + 1 + 1 + 1 + 1 + 1 + 1, 0, none⟩ (.int .i64 ((l.length : Int) + 1))) ∧ In w r m s t (l ++ [false]) ((W.setCell ⟨w.heap.size + 1 + 1 + 1 + 1 + 1 + 1 + 1 + 1 + 1, 0, none⟩ (.int .i64 (wt r m false l + 1))).setCell ⟨w.heap.size + 1 + 1 + 1 + 1 + 1 + 1 + 1 + 1 + 1 + 1, 0, none⟩ (.int .i64 ((l.length : Int) + 1))) := by
  have hR := h.1.2.2.1
  have hA := h.1.2.2.2.1
  have e : In w r m s t (l ++ [false]) = At w r m s t ((l.length : Int) + 1) (ca r false l) (ca r true l) (lo r m false l) (lo r m true l) (wt r m false l + 1) (wt r m true l) := by
    funext V
    unfold In
    rw [ca_snoc, ca_snoc, lo_snoc, lo_snoc, wt_snoc, wt_snoc, List.length_append]
    simp [show r ≤ l.length by omega, show ¬ (r + m ≤ l.length) by omega, hp, hq]
  rw [e]
  exact At.put h _ _ _ (by omega) (hR.far (by omega) _) (hA.set0 _) N _ rfl
theorem In.wait1 {w W : World} {r m s t : Nat} {l : List Bool} (h : In w r m s t l W) (hp : ¬ l.length < r) (hq : l.length < r + m) (N : Nat) :
    KeepsFrom N W ((W.setCell ⟨w.heap.size + 1 + 1 + 1 + 1 + 1 + 1 + 1 + 1 + 1, 1, none⟩ (.int .i64 (wt r m true l + 1))).setCell ⟨w.heap.size + 1 + 1 + 1 + 1 + 1 + 1 + 1 + 1 + 1 + 1, 0, none⟩ (.int .i64 ((l.length : Int) + 1))) ∧ Keep (w.heap.size + 1 + 1 + 1 + 1 + 1 + 1 + 1 + 1 + 1 + 1 + 1) (w.heap.size + 1 + 1 + 1 + 1 + 1 + 1 + 1 + 1 + 1 + 1 + 1 + 1) W ((W.setCell ⟨w.heap.size + 1 + 1 + 1 + 1 + 1 + 1 + 1 + 1 + 1, 1, none⟩ (.int .i64 (wt r m true l + 1))).setCell ⟨w.heap.size + 1 + 1 + 1 + 1 + 1 + 1 + 1 + 1 + 1 + 1, 0, none⟩ (.int .i64 ((l.length : Int) + 1))) ∧ In w r m s t (l ++ [true]) ((W.setCell ⟨w.heap.size + 1 + 1 + 1 + 1 + 1 + 1 + 1 + 1 + 1, 1, none⟩ (.int .i64 (wt r m true l + 1))).setCell ⟨w.heap.size + 1 + 1 + 1 + 1 + 1 + 1 + 1 + 1 + 1 + 1, 0, none⟩ (.int .i64 ((l.length : Int) + 1))) := by
  have hR := h.1.2.2.1
  have hA := h.1.2.2.2.1
  have e : In w r m s t (l ++ [true]) = At w r m s t ((l.length : Int) + 1) (ca r false l) (ca r true l) (lo r m false l) (lo r m true l) (wt r m false l) (wt r m true l + 1) := by
    funext V
    unfold In
    rw [ca_snoc, ca_snoc, lo_snoc, lo_snoc, wt_snoc, wt_snoc, List.length_append]
    simp [show r ≤ l.length by omega, show ¬ (r + m ≤ l.length) by omega, hp, hq]
  rw [e]
  exact At.put h _ _ _ (by omega) (hR.far (by omega) _) (hA.set1 _) N _ rfl
theorem In.lost0 {w W : World} {r m s t : Nat} {l : List Bool} (h : In w r m s t l W) (hq : ¬ l.length < r + m) (N : Nat) :
    KeepsFrom N W ((W.setCell ⟨w.heap.size + 1 + 1 + 1 + 1 + 1 + 1 + 1 + 1, 4, none⟩ (.int .i64 (lo r m false l + 1))).setCell ⟨w.heap.size + 1 + 1 + 1 + 1 + 1 + 1 + 1 + 1 + 1 + 1, 0, none⟩ (.int .i64 ((l.length : Int) + 1))) ∧ Keep (w.heap.size + 1 + 1 + 1 + 1 + 1 + 1 + 1 + 1 + 1 + 1 + 1) (w.heap.size + 1 + 1 + 1 + 1 + 1 + 1 + 1 + 1 + 1 + 1 + 1 + 1) W ((W.setCell ⟨w.heap.size + 1 + 1 + 1 + 1 + 1 + 1 + 1 + 1, 4, none⟩ (.int .i64 (lo r m false l + 1))).setCell ⟨w.heap.size + 1 + 1 + 1 + 1 + 1 + 1 + 1 + 1 + 1 + 1, 0, none⟩ (.int .i64 ((l.length : Int) + 1))) ∧ In w r m s t (l ++ [false]) ((W.setCell ⟨w.heap.size + 1 + 1 + 1 + 1 + 1 + 1 + 1 + 1, 4, none⟩ (.int .i64 (lo r m false l + 1))).setCell ⟨w.heap.size + 1 + 1 + 1 + 1 + 1 + 1 + 1 + 1 + 1 + 1, 0, none⟩ (.int .i64 ((l.length : Int) + 1))) := by
  have hR := h.1.2.2.1
  have hA := h.1.2.2.2.1
  have e : In w r m s t (l ++ [false]) = At w r m s t ((l.length : Int) + 1) (ca r false l) (ca r true l) (lo r m false l + 1) (lo r m true l) (wt r m false l) (wt r m true l) := by
    funext V
    unfold In
    rw [ca_snoc, ca_snoc, lo_snoc, lo_snoc, wt_snoc, wt_snoc, List.length_append]
    simp [show ¬ (l.length < r) by omega, show r + m ≤ l.length by omega, hq]
  rw [e]
  exact At.put h _ _ _ (by omega) (hR.set4 _) (hA.far (by omega) _) N _ rfl
theorem In.lost1 {w W : World} {r m s t : Nat} {l : List Bool} (h : In w r m s t l W) (hq : ¬ l.length < r + m) (N : Nat) :
    KeepsFrom N W ((W.setCell ⟨w.heap.size + 1 + 1 + 1 + 1 + 1 + 1 + 1 + 1, 5, none⟩ (.int .i64 (lo r m true l + 1))).setCell ⟨w.heap.size + 1 + 1 + 1 + 1 + 1 + 1 + 1 + 1 + 1 + 1, 0, none⟩ (.int .i64 ((l.length : Int) + 1))) ∧ Keep (w.heap.size + 1 + 1 + 1 + 1 + 1 + 1 + 1 + 1 + 1 + 1 + 1) (w.heap.size + 1 + 1 + 1 + 1 + 1 + 1 + 1 + 1 + 1 + 1 + 1 + 1) W ((W.setCell ⟨w.heap.size + 1 + 1 + 1 + 1 + 1 + 1 + 1 + 1, 5, none⟩ (.int .i64 (lo r m true l + 1))).setCell ⟨w.heap.size + 1 + 1 + 1 + 1 + 1 + 1 + 1 + 1 + 1 + 1, 0, none⟩ (.int .i64 ((l.length : Int) + 1))) ∧ In w r m s t (l ++ [true]) ((W.setCell ⟨w.heap.size + 1 + 1 + 1 + 1 + 1 + 1 + 1 + 1, 5, none⟩ (.int .i64 (lo r m true l + 1))).setCell ⟨w.heap.size + 1 + 1 + 1 + 1 + 1 + 1 + 1 + 1 + 1 + 1, 0, none⟩ (.int .i64 ((l.length : Int) + 1))) := by
  have hR := h.1.2.2.1
  have hA := h.1.2.2.2.1
  have e : In w r m s t (l ++ [true]) = At w r m s t ((l.length : Int) + 1) (ca r false l) (ca r true l) (lo r m false l) (lo r m true l + 1) (wt r m false l) (wt r m true l) := by
    funext V
    unfold In
    rw [ca_snoc, ca_snoc, lo_snoc, lo_snoc, wt_snoc, wt_snoc, List.length_append]
    simp [show ¬ (l.length < r) by omega, show r + m ≤ l.length by omega, hq]
  rw [e]
  exact At.put h _ _ _ (by omega) (hR.set5 _) (hA.far (by omega) _) N _ rfl

/-- what lies there when all is told -/
theorem told_at {w W : World} {D : Nat} (P : Rnd W (w.heap.size + 1 + 1 + 1 + 1) 0 0 0 0 0 0) (Q : Arr W (w.heap.size + 1 + 1 + 1 + 1 + 1) 0 0) (hB : Below w.heap.size w W) (hK : W.heap[D]? = some (.deferred (some []))) (s t x0 x1 y0 y1 z0 z1 : Int) {V : World} (hV : ((((((((W.setCell ⟨w.heap.size + 1 + 1 + 1 + 1, 0, none⟩ (.int .i64 s)).setCell ⟨w.heap.size + 1 + 1 + 1 + 1, 1, none⟩ (.int .i64 t)).setCell ⟨w.heap.size + 1 + 1 + 1 + 1, 2, none⟩ (.int .i64 x0)).setCell ⟨w.heap.size + 1 + 1 + 1 + 1, 3, none⟩ (.int .i64 x1)).setCell ⟨w.heap.size + 1 + 1 + 1 + 1, 4, none⟩ (.int .i64 y0)).setCell ⟨w.heap.size + 1 + 1 + 1 + 1, 5, none⟩ (.int .i64 y1)).setCell ⟨w.heap.size + 1 + 1 + 1 + 1 + 1, 0, none⟩ (.int .i64 z0)).setCell ⟨w.heap.size + 1 + 1 + 1 + 1 + 1, 1, none⟩ (.int .i64 z1)).drew = V) :
    Rnd V (w.heap.size + 1 + 1 + 1 + 1) s t x0 x1 y0 y1 ∧ Arr V (w.heap.size + 1 + 1 + 1 + 1 + 1) z0 z1 ∧ Below w.heap.size w V ∧ V.heap[D]? = some (.deferred (some [])) := by
  subst hV
  refine ⟨(((P.put s t x0 x1 y0 y1).far (by omega) _).far (by omega) _).drew, ?_, ?_, ?_⟩
  · refine Arr.kept ?_ (Below.drew (Below.refl _ _))
    refine Arr.set1 (a := z0) (b := 0) (Arr.set0 (a := 0) ?_ z0) z1
    exact (((((Q.far (by omega) _).far (by omega) _).far (by omega) _).far (by omega) _).far (by omega) _).far (by omega) _
  · have h4 : w.heap.size ≤ w.heap.size + 1 + 1 + 1 + 1 := by omega
    have h5 : w.heap.size ≤ w.heap.size + 1 + 1 + 1 + 1 + 1 := by omega
    exact (((((((((hB).setCell (p := ⟨w.heap.size + 1 + 1 + 1 + 1, 0, none⟩) h4 _).setCell (p := ⟨w.heap.size + 1 + 1 + 1 + 1, 1, none⟩) h4 _).setCell (p := ⟨w.heap.size + 1 + 1 + 1 + 1, 2, none⟩) h4 _).setCell (p := ⟨w.heap.size + 1 + 1 + 1 + 1, 3, none⟩) h4 _).setCell (p := ⟨w.heap.size + 1 + 1 + 1 + 1, 4, none⟩) h4 _).setCell (p := ⟨w.heap.size + 1 + 1 + 1 + 1, 5, none⟩) h4 _).setCell (p := ⟨w.heap.size + 1 + 1 + 1 + 1 + 1, 0, none⟩) h5 _).setCell (p := ⟨w.heap.size + 1 + 1 + 1 + 1 + 1, 1, none⟩) h5 _).drew
  · exact (((((((((KeepsOthers.setCell _ _ _).trans (KeepsOthers.setCell _ _ _)).trans (KeepsOthers.setCell _ _ _)).trans (KeepsOthers.setCell _ _ _)).trans (KeepsOthers.setCell _ _ _)).trans (KeepsOthers.setCell _ _ _)).trans (KeepsOthers.setCell _ _ _)).trans (KeepsOthers.setCell _ _ _)).trans (KeepsOthers.drew _)).same D _ hK rfl
theorem told_put {V : World} {D C E : Nat} {s t x0 x1 y0 y1 z0 z1 : Int} (hK : V.heap[D]? = some (.deferred (some []))) (P : Rnd V C s t x0 x1 y0 y1) (Q : Arr V E z0 z1) : Rnd (V.putObj D (.deferred none)) C s t x0 x1 y0 y1 ∧ Arr (V.putObj D (.deferred none)) E z0 z1 :=
  have hr : ∀ r, some D = some r → ∃ o : Obj, V.heap[r]? = some o ∧ o.isCells = false := fun r e => by cases e; exact ⟨_, hK, rfl⟩
  ⟨Rnd.own (β := Unit) C (fun _ => s) (fun _ => t) (fun _ => x0) (fun _ => x1) (fun _ => y0) (fun _ => y1) () _ _ _ P (grownBy_putObj' _ D (.deferred none)) hr,
    Arr.own (β := Unit) E (fun _ => z0) (fun _ => z1) () _ _ _ Q (grownBy_putObj' _ D (.deferred none)) hr⟩

set_option maxRecDepth 100000 in
set_option maxHeartbeats 4000000 in
theorem pass_in (n : Nat) (hn : 4 ≤ n) (r m a b s t : Nat) (h : lr r m a b s t) (w : World) :
    CallsIn Fence.wide n Tryz.prog 118 #[.int .i64 r, .int .i64 m, .agg #[.int .i64 a, .int .i64 b], .agg #[.int .i64 s, .int .i64 t]] w fun e w' =>
      e = .returned (.tuple #[.agg #[.int .i64 s, .int .i64 t, .int .i64 (ca r false (pk a b s t)), .int .i64 (ca r true (pk a b s t)), .int .i64 (lo r m false (pk a b s t)), .int .i64 (lo r m true (pk a b s t))], .agg #[.int .i64 (wt r m false (pk a b s t)), .int .i64 (wt r m true (pk a b s t))], .int .i64 0]) ∧ Below w.heap.size w w' := by
  have h1 : 1 ≤ n := by omega
  have hr := fun v => right_is r m a b s t true (decide_eq_true h) v
  unfold lr at h
  refine callsIn_of_wp_marks Tryz.func118 rfl trivial ?_ rfl
  simp only [Tryz.ntmps118, List.size_toArray, List.length_cons, List.length_nil, Nat.reduceAdd, Nat.reduceSub, Array.replicate_succ, Array.replicate_zero, List.push_toArray, List.append_toArray, List.nil_append, List.cons_append]
  gi_wp2_with (first
    | (refine ⟨trivial, ?_⟩; gi_at_call 139; refine (callsIn_wide.2 (hr _)).mono ?_; clear hr; rintro e w' ⟨rfl, rfl⟩)
    | (refine ⟨trivial, ?_⟩; gi_at_call 140; refine (callsIn_wide.2 (flows_any _ _ _ _ _)).mono ?_; rintro e w' ⟨rfl, rfl⟩))
  obtain ⟨hs0, hA0, hq1, hq2⟩ := begun_at w r m a b s t
  unfold begun at hs0 hA0 hq1 hq2
  refine wpIn_rangeFunc_ownG rfl h1 (gf := 153) (lb := #[.pointer (some ⟨w.heap.size + 1 + 1 + 1 + 1 + 1 + 1 + 1 + 1 + 1 + 1 + 1, 0, none⟩), .pointer (some ⟨w.heap.size + 1 + 1 + 1 + 1 + 1 + 1 + 1 + 1 + 1 + 1 + 1 + 1, 0, none⟩)]) rfl trivial (enters_of Tryz.func153 (by kernel_rfl) rfl)
    (flows_stops (n - 1) (by omega) (w.heap.size + 1 + 1 + 1 + 1 + 1 + 1 + 1 + 1 + 1 + 1 + 1) (w.heap.size + 1 + 1 + 1 + 1 + 1 + 1 + 1 + 1 + 1 + 1 + 1 + 1) a b s t (by omega) (by omega) (by omega) (by omega) _ hq1 hq2) Keep.trans (keep_b (by rw [hs0]; omega) (by rw [hs0]; omega)) (Below.refl _ _) (fun _ => rfl)
    (In w r m s t) (fun _ _ _ => False)
    (At.own w r m s t _ _ _ _ _ _ _ _ (by rw [hs0]; omega))
    (fun _ _ _ _ _ hs _ _ => hs)
    (by simpa [In, ca, lo, wt, cn] using hA0)
    (fun x => { tmps := #[.int .i64 r, .int .i64 m, .agg #[.int .i64 a, .int .i64 b], .agg #[.int .i64 s, .int .i64 t], .pointer (some ⟨w.heap.size, 0, none⟩), .pointer (some ⟨w.heap.size + 1, 0, none⟩), .pointer (some ⟨w.heap.size + 1 + 1, 0, none⟩), .pointer (some ⟨w.heap.size + 1 + 1 + 1, 0, none⟩), .pointer (some ⟨w.heap.size + 1 + 1 + 1 + 1, 0, none⟩), .pointer (some ⟨w.heap.size + 1 + 1 + 1 + 1 + 1, 0, none⟩), .int .i64 0,
      .pointer (some ⟨w.heap.size + 1 + 1 + 1 + 1 + 1 + 1 + 1 + 1, 0, none⟩), .pointer (some ⟨w.heap.size + 1 + 1 + 1 + 1 + 1 + 1 + 1 + 1 + 1, 0, none⟩), .pointer (some ⟨w.heap.size + 1 + 1 + 1 + 1 + 1 + 1 + 1 + 1 + 1 + 1, 0, none⟩), .int .i64 (if x then 1 else 0), .int .i64 r, .int .i64 m, .agg #[.int .i64 a, .int .i64 b], .agg #[.int .i64 s, .int .i64 t], .bool true, .bool false, undef, undef, .agg #[.int .i64 s, .int .i64 t],
      .agg #[.int .i64 s, .int .i64 t, .int .i64 0, .int .i64 0, .int .i64 0, .int .i64 0], .agg #[.int .i64 a, .int .i64 b], .agg #[.int .i64 s, .int .i64 t], .func (.func 153) #[] #[.pointer (some ⟨w.heap.size + 1 + 1 + 1 + 1 + 1 + 1 + 1 + 1 + 1 + 1 + 1, 0, none⟩), .pointer (some ⟨w.heap.size + 1 + 1 + 1 + 1 + 1 + 1 + 1 + 1 + 1 + 1 + 1 + 1, 0, none⟩)], .int .i64 (if x then 1 else 0), undef, undef, undef, undef, undef, undef, undef, undef, undef, undef, undef, undef, undef, undef, undef, undef, undef, undef, undef, undef, undef, undef, undef, undef, undef, undef, undef, undef, undef, undef, undef, undef, undef], defers := [] }) ?assign ?body ?done ?stop
  case assign =>
    intro l x W K hK
    cases x
    all_goals
      gi_wp2
      exact hK
  case body =>
    rintro l pre x W hI hlt
    clear hs0 hA0 hq1 hq2
    cases x
    · by_cases hp : pre.length < r
      · have hi : (pre.length : Int) < r := by omega
        have g := fun N => hidden (In.came0 hI hp N)
        obtain ⟨⟨⟨⟨k1, _⟩, ⟨k2, _⟩⟩, ⟨k3, k4⟩, ⟨c0, c1, c2, c3, c4, c5, f0, f1, f2, f3, f4, f5⟩, ⟨e0, e1, g0, g1⟩, _⟩, _⟩ := hI
        have b := ca_in r false pre
        generalize ca r false pre = v at *
        gi_wp2
        exact (g _).out
      · have hi : decide ((pre.length : Int) < r) = false := decide_eq_false (by omega)
        by_cases hq : pre.length < r + m
        · have hj : (pre.length : Int) < r + m := by omega
          have g := fun N => hidden (In.wait0 hI hp hq N)
          obtain ⟨⟨⟨⟨k1, _⟩, ⟨k2, _⟩⟩, ⟨k3, k4⟩, ⟨c0, c1, c2, c3, c4, c5, f0, f1, f2, f3, f4, f5⟩, ⟨e0, e1, g0, g1⟩, _⟩, _⟩ := hI
          have b := wt_in r m false pre
          generalize wt r m false pre = v at *
          gi_wp2
          exact (g _).out
        · have hj : decide ((pre.length : Int) < r + m) = false := decide_eq_false (by omega)
          have g := fun N => hidden (In.lost0 hI hq N)
          obtain ⟨⟨⟨⟨k1, _⟩, ⟨k2, _⟩⟩, ⟨k3, k4⟩, ⟨c0, c1, c2, c3, c4, c5, f0, f1, f2, f3, f4, f5⟩, ⟨e0, e1, g0, g1⟩, _⟩, _⟩ := hI
          have b := lo_in r m false pre
          generalize lo r m false pre = v at *
          gi_wp2
          exact (g _).out
    · by_cases hp : pre.length < r
      · have hi : (pre.length : Int) < r := by omega
        have g := fun N => hidden (In.came1 hI hp N)
        obtain ⟨⟨⟨⟨k1, _⟩, ⟨k2, _⟩⟩, ⟨k3, k4⟩, ⟨c0, c1, c2, c3, c4, c5, f0, f1, f2, f3, f4, f5⟩, ⟨e0, e1, g0, g1⟩, _⟩, _⟩ := hI
        have b := ca_in r true pre
        generalize ca r true pre = v at *
        gi_wp2
        exact (g _).out
      · have hi : decide ((pre.length : Int) < r) = false := decide_eq_false (by omega)
        by_cases hq : pre.length < r + m
        · have hj : (pre.length : Int) < r + m := by omega
          have g := fun N => hidden (In.wait1 hI hp hq N)
          obtain ⟨⟨⟨⟨k1, _⟩, ⟨k2, _⟩⟩, ⟨k3, k4⟩, ⟨c0, c1, c2, c3, c4, c5, f0, f1, f2, f3, f4, f5⟩, ⟨e0, e1, g0, g1⟩, _⟩, _⟩ := hI
          have b := wt_in r m true pre
          generalize wt r m true pre = v at *
          gi_wp2
          exact (g _).out
        · have hj : decide ((pre.length : Int) < r + m) = false := decide_eq_false (by omega)
          have g := fun N => hidden (In.lost1 hI hq N)
          obtain ⟨⟨⟨⟨k1, _⟩, ⟨k2, _⟩⟩, ⟨k3, k4⟩, ⟨c0, c1, c2, c3, c4, c5, f0, f1, f2, f3, f4, f5⟩, ⟨e0, e1, g0, g1⟩, _⟩, _⟩ := hI
          have b := lo_in r m true pre
          generalize lo r m true pre = v at *
          gi_wp2
          exact (g _).out
  case done =>
    rintro D ys W hD rfl hI hK
    obtain ⟨⟨_, _, X, Y, P, Q⟩, hB⟩ := hI
    obtain ⟨c0, c1, c2, c3, c4, c5, f0, f1, f2, f3, f4, f5⟩ := X
    obtain ⟨e0, e1, g0, g1⟩ := Y
    have P' := P
    have Q' := Q
    obtain ⟨i0, i1, i2, i3, i4, i5, j0, j1, j2, j3, j4, j5⟩ := P'
    obtain ⟨k0, k1, l0, l1⟩ := Q'
    have T := told_at P Q hB hK s t (ca r false (pk a b s t)) (ca r true (pk a b s t)) (lo r m false (pk a b s t)) (lo r m true (pk a b s t)) (wt r m false (pk a b s t)) (wt r m true (pk a b s t)) rfl
    gi_wp2
    gi_region
    obtain ⟨V, hV⟩ : ∃ V, ((((((((W.setCell ⟨w.heap.size + 1 + 1 + 1 + 1, 0, none⟩ (.int .i64 s)).setCell ⟨w.heap.size + 1 + 1 + 1 + 1, 1, none⟩ (.int .i64 t)).setCell ⟨w.heap.size + 1 + 1 + 1 + 1, 2, none⟩ (.int .i64 (ca r false (pk a b s t)))).setCell ⟨w.heap.size + 1 + 1 + 1 + 1, 3, none⟩ (.int .i64 (ca r true (pk a b s t)))).setCell ⟨w.heap.size + 1 + 1 + 1 + 1, 4, none⟩ (.int .i64 (lo r m false (pk a b s t)))).setCell ⟨w.heap.size + 1 + 1 + 1 + 1, 5, none⟩ (.int .i64 (lo r m true (pk a b s t)))).setCell ⟨w.heap.size + 1 + 1 + 1 + 1 + 1, 0, none⟩ (.int .i64 (wt r m false (pk a b s t)))).setCell ⟨w.heap.size + 1 + 1 + 1 + 1 + 1, 1, none⟩ (.int .i64 (wt r m true (pk a b s t)))).drew = V := ⟨_, rfl⟩
    rw [hV] at T ⊢
    clear hV i0 i1 i2 i3 i4 i5 j0 j1 j2 j3 j4 j5 k0 k1 l0 l1 c0 c1 c2 c3 c4 c5 f0 f1 f2 f3 f4 f5 e0 e1 g0 g1 P Q hB hK
    obtain ⟨P, Q, hB, hK⟩ := T
    gi_wp2
    refine ⟨by simp, .inl ⟨_, _, rfl, run_takeDeferred hK, ?_⟩⟩
    obtain ⟨P', Q'⟩ := told_put hK P Q
    refine ⟨_, ?_, rfl, hB.trans (belowK_b (w := w) (Nat.le_refl _) _ D _ _ (by omega) hK rfl rfl)⟩
    simp [results, Tryz.f118, go_sem, P'.c0, P'.c1, P'.c2, P'.c3, P'.c4, P'.c5, Q'.c0, Q'.c1]
  case stop =>
    rintro D c pre W _ _ h _
    exact h.elim

end Go.Proofs.YtjageagnclmnjabGreatDoor.K
