/- PROVED: what the verifier's OPass answers. CONDITIONS: none beyond each theorem's own. -/
import Derived.Test.YtjageagnclmnjaaGreatDoorT44KRef
import Derived.Test.YtjageagnclmnjaaGreatDoorB00KNums
import Derived.Deep.RegionHeld3
import Derived.Deep.RegionWith
import Derived.Deep.CutRange
namespace Go.Proofs.YtjageagnclmnjaaGreatDoor.K
open Go.RowKit

theorem oright_is (r m a b s t : Int) (B : Bool) (h : decide (lr r m a b s t) = B) (w : World) :
    Calls Tryz.prog 138 #[.int .i64 r, .int .i64 m, .agg #[.int .i64 a, .int .i64 b], .agg #[.int .i64 s, .int .i64 t]] w fun e w' => e = .returned (.bool B) ∧ w' = (w.alloc (.cells #[.int .i64 a, .int .i64 b] 31)).alloc (.cells #[.int .i64 s, .int .i64 t] 31) := by
  subst h; exact oright_any r m a b s t w

theorem wrap_small {n : Int} (h0 : 0 ≤ n) (h1 : n ≤ 100) : IntKind.i64.wrap n = n := by
  simp [IntKind.wrap, IntKind.signed, IntKind.bits]
  split <;> omega

/-- what lies there in OPass -/
structure OAt (w : World) (a b s t x0 x1 y0 y1 z0 z1 : Int) (V : World) : Prop where
  h6 : Arr V w.heap.size a b
  h7 : Arr V (w.heap.size + 1) s t
  h8 : Rnd V (w.heap.size + 1 + 1) 0 0 0 0 0 0
  h9 : Arr V (w.heap.size + 1 + 1 + 1) 0 0
  h11 : Rnd V (w.heap.size + 1 + 1 + 1 + 1 + 1 + 1) s t x0 x1 y0 y1
  h12 : Arr V (w.heap.size + 1 + 1 + 1 + 1 + 1 + 1 + 1) z0 z1
  hB : Below w.heap.size w V
  hS : w.heap.size + 8 ≤ V.heap.size
theorem OAt.kept {w V V' : World} {a b s t x0 x1 y0 y1 z0 z1 : Int} (h : OAt w a b s t x0 x1 y0 y1 z0 z1 V) (g : Below V.heap.size V V') : OAt w a b s t x0 x1 y0 y1 z0 z1 V' :=
  ⟨h.h6.kept g, h.h7.kept g, h.h8.kept g, h.h9.kept g, h.h11.kept g, h.h12.kept g, bthen h.hB g, Nat.le_trans h.hS g.size⟩
theorem OAt.alloc {w V : World} {a b s t x0 x1 y0 y1 z0 z1 : Int} (h : OAt w a b s t x0 x1 y0 y1 z0 z1 V) (o : Obj) : OAt w a b s t x0 x1 y0 y1 z0 z1 (V.alloc o) := h.kept (balloc (Below.refl _ _) o)
theorem OAt.drewN {w V : World} {a b s t x0 x1 y0 y1 z0 z1 : Int} (h : OAt w a b s t x0 x1 y0 y1 z0 z1 V) (q : Nat) : OAt w a b s t x0 x1 y0 y1 z0 z1 (V.drewN q) := h.kept (below_drewN (Below.refl _ _) q)
theorem size_set (V : World) (p : Addr) (v : Value) : (V.setCell p v).heap.size = V.heap.size := by simp [World.setCell]
theorem OAt.far {w V : World} {a b s t x0 x1 y0 y1 z0 z1 : Int} {D o : Nat} (h : OAt w a b s t x0 x1 y0 y1 z0 z1 V) (hD : w.heap.size + 8 ≤ D) (v : Value) : OAt w a b s t x0 x1 y0 y1 z0 z1 (V.setCell ⟨D, o, none⟩ v) :=
  ⟨h.h6.far (by omega) _, h.h7.far (by omega) _, h.h8.far (by omega) _, h.h9.far (by omega) _, h.h11.far (by omega) _, h.h12.far (by omega) _, h.hB.setCell (p := ⟨D, o, none⟩) (by simp; omega) _, by rw [size_set]; exact h.hS⟩
theorem OAt.four {w V : World} {a b s t x0 x1 y0 y1 z0 z1 : Int} (h : OAt w a b s t x0 x1 y0 y1 z0 z1 V) : V.cell? ⟨w.heap.size, 0, none⟩ = some (.int .i64 a) ∧ V.cell? ⟨w.heap.size, 1, none⟩ = some (.int .i64 b) ∧ V.cell? ⟨w.heap.size + 1, 0, none⟩ = some (.int .i64 s) ∧ V.cell? ⟨w.heap.size + 1, 1, none⟩ = some (.int .i64 t) :=
  ⟨h.h6.c0, h.h6.c1, h.h7.c0, h.h7.c1⟩
theorem obegun (w : World) (a b s t : Int) : OAt w a b s t 0 0 0 0 0 0 ((((((((w.alloc (.cells #[.int .i64 a, .int .i64 b] 31)).alloc (.cells #[.int .i64 s, .int .i64 t] 31)).alloc (.cells #[.int .i64 0, .int .i64 0, .int .i64 0, .int .i64 0, .int .i64 0, .int .i64 0] 86)).alloc (.cells #[.int .i64 0, .int .i64 0] 31)).alloc (.cells #[.int .i64 a, .int .i64 b] 31)).alloc (.cells #[.int .i64 s, .int .i64 t] 31)).alloc
    (.cells #[.int .i64 s, .int .i64 t, .int .i64 0, .int .i64 0, .int .i64 0, .int .i64 0] 86)).alloc (.cells #[.int .i64 0, .int .i64 0] 31)) := by
  refine ⟨?_, ?_, ?_, ?_, ?_, ?_, ?_, by simp⟩
  · repeat (first | (refine Arr.new _ _ ?_ _ _; simp; done) | refine Arr.alloc ?_ _)
  · repeat (first | (refine Arr.new _ _ ?_ _ _; simp; done) | refine Arr.alloc ?_ _)
  · repeat (first | (refine Rnd.new _ _ ?_ _ _ _ _ _ _; simp; done) | refine Rnd.alloc ?_ _)
  · repeat (first | (refine Arr.new _ _ ?_ _ _; simp; done) | refine Arr.alloc ?_ _)
  · repeat (first | (refine Rnd.new _ _ ?_ _ _ _ _ _ _; simp; done) | refine Rnd.alloc ?_ _)
  · repeat (first | (refine Arr.new _ _ ?_ _ _; simp; done) | refine Arr.alloc ?_ _)
  · repeat (first | exact Below.refl _ _ | refine balloc ?_ _)
theorem up2 {w w1 : World} {o o' : Obj} (h : Below ((w.alloc o).alloc o').heap.size ((w.alloc o).alloc o') w1) : Below w.heap.size w w1 := bthen (balloc (balloc (Below.refl _ _) o) o') h
theorem OAt.drew {w V : World} {a b s t x0 x1 y0 y1 z0 z1 : Int} (h : OAt w a b s t x0 x1 y0 y1 z0 z1 V) : OAt w a b s t x0 x1 y0 y1 z0 z1 V.drew := h.drewN 1
theorem dr0 {V v : World} (b : Below V.drew.heap.size V.drew v) : Below V.heap.size V v := bthen (Below.drew (Below.refl _ _)) b
theorem dr1 {V v : World} {o : Obj} (b : Below (V.alloc o).drew.heap.size (V.alloc o).drew v) : Below V.heap.size V v := bthen (Below.drew (balloc (Below.refl _ _) o)) b
theorem dr2 {V v : World} {o o' : Obj} (b : Below ((V.alloc o).alloc o').drew.heap.size ((V.alloc o).alloc o').drew v) : Below V.heap.size V v := bthen (Below.drew (balloc (balloc (Below.refl _ _) o) o')) b
theorem OAt.came0 {w V : World} {a b s t x0 x1 y0 y1 z0 z1 : Int} (h : OAt w a b s t x0 x1 y0 y1 z0 z1 V) (v : Int) : OAt w a b s t v x1 y0 y1 z0 z1 (V.setCell ⟨w.heap.size + 1 + 1 + 1 + 1 + 1 + 1, 2, none⟩ (.int .i64 v)) :=
  ⟨h.h6.far (by omega) _, h.h7.far (by omega) _, h.h8.far (by omega) _, h.h9.far (by omega) _, h.h11.set2 _, h.h12.far (by omega) _, h.hB.setCell (p := ⟨w.heap.size + 1 + 1 + 1 + 1 + 1 + 1, 2, none⟩) (by simp; omega) _, by rw [size_set]; exact h.hS⟩
theorem OAt.came1 {w V : World} {a b s t x0 x1 y0 y1 z0 z1 : Int} (h : OAt w a b s t x0 x1 y0 y1 z0 z1 V) (v : Int) : OAt w a b s t x0 v y0 y1 z0 z1 (V.setCell ⟨w.heap.size + 1 + 1 + 1 + 1 + 1 + 1, 3, none⟩ (.int .i64 v)) :=
  ⟨h.h6.far (by omega) _, h.h7.far (by omega) _, h.h8.far (by omega) _, h.h9.far (by omega) _, h.h11.set3 _, h.h12.far (by omega) _, h.hB.setCell (p := ⟨w.heap.size + 1 + 1 + 1 + 1 + 1 + 1, 3, none⟩) (by simp; omega) _, by rw [size_set]; exact h.hS⟩
theorem OAt.lost0 {w V : World} {a b s t x0 x1 y0 y1 z0 z1 : Int} (h : OAt w a b s t x0 x1 y0 y1 z0 z1 V) (v : Int) : OAt w a b s t x0 x1 v y1 z0 z1 (V.setCell ⟨w.heap.size + 1 + 1 + 1 + 1 + 1 + 1, 4, none⟩ (.int .i64 v)) :=
  ⟨h.h6.far (by omega) _, h.h7.far (by omega) _, h.h8.far (by omega) _, h.h9.far (by omega) _, h.h11.set4 _, h.h12.far (by omega) _, h.hB.setCell (p := ⟨w.heap.size + 1 + 1 + 1 + 1 + 1 + 1, 4, none⟩) (by simp; omega) _, by rw [size_set]; exact h.hS⟩
theorem OAt.lost1 {w V : World} {a b s t x0 x1 y0 y1 z0 z1 : Int} (h : OAt w a b s t x0 x1 y0 y1 z0 z1 V) (v : Int) : OAt w a b s t x0 x1 y0 v z0 z1 (V.setCell ⟨w.heap.size + 1 + 1 + 1 + 1 + 1 + 1, 5, none⟩ (.int .i64 v)) :=
  ⟨h.h6.far (by omega) _, h.h7.far (by omega) _, h.h8.far (by omega) _, h.h9.far (by omega) _, h.h11.set5 _, h.h12.far (by omega) _, h.hB.setCell (p := ⟨w.heap.size + 1 + 1 + 1 + 1 + 1 + 1, 5, none⟩) (by simp; omega) _, by rw [size_set]; exact h.hS⟩
theorem OAt.left0 {w V : World} {a b s t x0 x1 y0 y1 z0 z1 : Int} (h : OAt w a b s t x0 x1 y0 y1 z0 z1 V) (v : Int) : OAt w a b s t x0 x1 y0 y1 v z1 (V.setCell ⟨w.heap.size + 1 + 1 + 1 + 1 + 1 + 1 + 1, 0, none⟩ (.int .i64 v)) :=
  ⟨h.h6.far (by omega) _, h.h7.far (by omega) _, h.h8.far (by omega) _, h.h9.far (by omega) _, h.h11.far (by omega) _, h.h12.set0 _, h.hB.setCell (p := ⟨w.heap.size + 1 + 1 + 1 + 1 + 1 + 1 + 1, 0, none⟩) (by simp; omega) _, by rw [size_set]; exact h.hS⟩
theorem OAt.left1 {w V : World} {a b s t x0 x1 y0 y1 z0 z1 : Int} (h : OAt w a b s t x0 x1 y0 y1 z0 z1 V) (v : Int) : OAt w a b s t x0 x1 y0 y1 z0 v (V.setCell ⟨w.heap.size + 1 + 1 + 1 + 1 + 1 + 1 + 1, 1, none⟩ (.int .i64 v)) :=
  ⟨h.h6.far (by omega) _, h.h7.far (by omega) _, h.h8.far (by omega) _, h.h9.far (by omega) _, h.h11.far (by omega) _, h.h12.set1 _, h.hB.setCell (p := ⟨w.heap.size + 1 + 1 + 1 + 1 + 1 + 1 + 1, 1, none⟩) (by simp; omega) _, by rw [size_set]; exact h.hS⟩
/-- pairs that were made ahead of a call -/
theorem one_new {V v : World} (b : Below (V.alloc (.cells #[.int .i64 0, .int .i64 0] 31)).heap.size (V.alloc (.cells #[.int .i64 0, .int .i64 0] 31)) v) : Arr v V.heap.size 0 0 ∧ V.heap.size + 1 ≤ v.heap.size :=
  ⟨(Arr.new V _ rfl 0 0).kept b, by have := b.size; simpa using this⟩
theorem two_new {V v : World} (b : Below ((V.alloc (.cells #[.int .i64 0, .int .i64 0] 31)).alloc (.cells #[.int .i64 0, .int .i64 0] 31)).heap.size ((V.alloc (.cells #[.int .i64 0, .int .i64 0] 31)).alloc (.cells #[.int .i64 0, .int .i64 0] 31)) v) : Arr v V.heap.size 0 0 ∧ Arr v (V.heap.size + 1) 0 0 ∧ V.heap.size + 2 ≤ v.heap.size :=
  ⟨((Arr.new V _ rfl 0 0).alloc _).kept b, (Arr.new (V.alloc _) _ (by simp) 0 0).kept b, by have := b.size; simpa using this⟩

theorem one_newd {V v : World} (b : Below (V.alloc (.cells #[.int .i64 0, .int .i64 0] 31)).drew.heap.size (V.alloc (.cells #[.int .i64 0, .int .i64 0] 31)).drew v) : Arr v V.heap.size 0 0 ∧ V.heap.size + 1 ≤ v.heap.size := one_new (dr0 b)
theorem two_newd {V v : World} (b : Below ((V.alloc (.cells #[.int .i64 0, .int .i64 0] 31)).alloc (.cells #[.int .i64 0, .int .i64 0] 31)).drew.heap.size ((V.alloc (.cells #[.int .i64 0, .int .i64 0] 31)).alloc (.cells #[.int .i64 0, .int .i64 0] 31)).drew v) : Arr v V.heap.size 0 0 ∧ Arr v (V.heap.size + 1) 0 0 ∧ V.heap.size + 2 ≤ v.heap.size := two_new (dr0 b)

/-- what lies there when all is told -/
theorem otold {w W : World} (P : Rnd W (w.heap.size + 1 + 1) 0 0 0 0 0 0) (Q : Arr W (w.heap.size + 1 + 1 + 1) 0 0) (hB : Below w.heap.size w W) (s t x0 x1 y0 y1 z0 z1 : Int) :
    Rnd ((((((((W.setCell ⟨w.heap.size + 1 + 1, 0, none⟩ (.int .i64 s)).setCell ⟨w.heap.size + 1 + 1, 1, none⟩ (.int .i64 t)).setCell ⟨w.heap.size + 1 + 1, 2, none⟩ (.int .i64 x0)).setCell ⟨w.heap.size + 1 + 1, 3, none⟩ (.int .i64 x1)).setCell ⟨w.heap.size + 1 + 1, 4, none⟩ (.int .i64 y0)).setCell ⟨w.heap.size + 1 + 1, 5, none⟩ (.int .i64 y1)).setCell ⟨w.heap.size + 1 + 1 + 1, 0, none⟩ (.int .i64 z0)).setCell ⟨w.heap.size + 1 + 1 + 1, 1, none⟩ (.int .i64 z1)).drew (w.heap.size + 1 + 1) s t x0 x1 y0 y1 ∧ Arr ((((((((W.setCell ⟨w.heap.size + 1 + 1, 0, none⟩ (.int .i64 s)).setCell ⟨w.heap.size + 1 + 1, 1, none⟩ (.int .i64 t)).setCell ⟨w.heap.size + 1 + 1, 2, none⟩ (.int .i64 x0)).setCell ⟨w.heap.size + 1 + 1, 3, none⟩ (.int .i64 x1)).setCell ⟨w.heap.size + 1 + 1, 4, none⟩ (.int .i64 y0)).setCell ⟨w.heap.size + 1 + 1, 5, none⟩ (.int .i64 y1)).setCell ⟨w.heap.size + 1 + 1 + 1, 0, none⟩ (.int .i64 z0)).setCell ⟨w.heap.size + 1 + 1 + 1, 1, none⟩ (.int .i64 z1)).drew (w.heap.size + 1 + 1 + 1) z0 z1 ∧ Below w.heap.size w ((((((((W.setCell ⟨w.heap.size + 1 + 1, 0, none⟩ (.int .i64 s)).setCell ⟨w.heap.size + 1 + 1, 1, none⟩ (.int .i64 t)).setCell ⟨w.heap.size + 1 + 1, 2, none⟩ (.int .i64 x0)).setCell ⟨w.heap.size + 1 + 1, 3, none⟩ (.int .i64 x1)).setCell ⟨w.heap.size + 1 + 1, 4, none⟩ (.int .i64 y0)).setCell ⟨w.heap.size + 1 + 1, 5, none⟩ (.int .i64 y1)).setCell ⟨w.heap.size + 1 + 1 + 1, 0, none⟩ (.int .i64 z0)).setCell ⟨w.heap.size + 1 + 1 + 1, 1, none⟩ (.int .i64 z1)).drew := by
  refine ⟨(((P.put s t x0 x1 y0 y1).far (by omega) _).far (by omega) _).drew, ?_, ?_⟩
  · refine Arr.kept ?_ (Below.drew (Below.refl _ _))
    refine Arr.set1 (a := z0) (b := 0) (Arr.set0 (a := 0) ?_ z0) z1
    exact (((((Q.far (by omega) _).far (by omega) _).far (by omega) _).far (by omega) _).far (by omega) _).far (by omega) _
  · have h4 : w.heap.size ≤ w.heap.size + 1 + 1 := by omega
    have h5 : w.heap.size ≤ w.heap.size + 1 + 1 + 1 := by omega
    exact (((((((((hB).setCell (p := ⟨w.heap.size + 1 + 1, 0, none⟩) h4 _).setCell (p := ⟨w.heap.size + 1 + 1, 1, none⟩) h4 _).setCell (p := ⟨w.heap.size + 1 + 1, 2, none⟩) h4 _).setCell (p := ⟨w.heap.size + 1 + 1, 3, none⟩) h4 _).setCell (p := ⟨w.heap.size + 1 + 1, 4, none⟩) h4 _).setCell (p := ⟨w.heap.size + 1 + 1, 5, none⟩) h4 _).setCell (p := ⟨w.heap.size + 1 + 1 + 1, 0, none⟩) h5 _).setCell (p := ⟨w.heap.size + 1 + 1 + 1, 1, none⟩) h5 _).drew

set_option maxHeartbeats 6400000 in
theorem opass_of (r m a b s t c0 c1 d0 d1 : Int) (w : World) (hr : ∀ v, Calls Tryz.prog 138 #[.int .i64 r, .int .i64 m, .agg #[.int .i64 a, .int .i64 b], .agg #[.int .i64 s, .int .i64 t]] v fun e w' => e = .returned (.bool true) ∧ w' = (v.alloc (.cells #[.int .i64 a, .int .i64 b] 31)).alloc (.cells #[.int .i64 s, .int .i64 t] 31))
    (p : ∀ v, Calls Tryz.prog 139 #[.int .i64 r, .agg #[.int .i64 a, .int .i64 b], .agg #[.int .i64 s, .int .i64 t]] v fun e w' => e = .returned (.agg #[.int .i64 c0, .int .i64 c1]) ∧ Below v.heap.size v w')
    (q : ∀ v, Calls Tryz.prog 139 #[.int .i64 (r + m), .agg #[.int .i64 a, .int .i64 b], .agg #[.int .i64 s, .int .i64 t]] v fun e w' => e = .returned (.agg #[.int .i64 d0, .int .i64 d1]) ∧ Below v.heap.size v w')
    (h1 : 1 ≤ r) (h2 : r ≤ 12) (h3 : 0 ≤ m) (h4 : m ≤ 16) (ha : 0 ≤ a ∧ a ≤ 16) (hb : 0 ≤ b ∧ b ≤ 16) (hs : 0 ≤ s ∧ s ≤ 12) (ht : 0 ≤ t ∧ t ≤ 12) (k0 : 0 ≤ c0 ∧ c0 ≤ 100) (k1 : 0 ≤ c1 ∧ c1 ≤ 100) (j0 : 0 ≤ d0 ∧ d0 ≤ 100) (j1 : 0 ≤ d1 ∧ d1 ≤ 100) :
    Calls Tryz.prog 106 #[.int .i64 r, .int .i64 m, .agg #[.int .i64 a, .int .i64 b], .agg #[.int .i64 s, .int .i64 t]] w fun e w' =>
      e = .returned (.tuple #[.agg #[.int .i64 s, .int .i64 t, .int .i64 c0, .int .i64 c1, .int .i64 (a + s - d0), .int .i64 (b + t - d1)], .agg #[.int .i64 (d0 - c0), .int .i64 (d1 - c1)], .int .i64 0]) ∧ Below w.heap.size w w' := by
  go_enter Tryz.func106, Tryz.ntmps106
  go_upto_region 5 with (go_at_call 138; refine (hr _).mono ?_; clear hr; rintro e w' ⟨rfl, rfl⟩)
  have Z0 := obegun w a b s t
  obtain ⟨V, hV⟩ : ∃ V, ((((((((w.alloc (.cells #[.int .i64 a, .int .i64 b] 31)).alloc (.cells #[.int .i64 s, .int .i64 t] 31)).alloc (.cells #[.int .i64 0, .int .i64 0, .int .i64 0, .int .i64 0, .int .i64 0, .int .i64 0] 86)).alloc (.cells #[.int .i64 0, .int .i64 0] 31)).alloc (.cells #[.int .i64 a, .int .i64 b] 31)).alloc (.cells #[.int .i64 s, .int .i64 t] 31)).alloc (.cells #[.int .i64 s, .int .i64 t, .int .i64 0, .int .i64 0, .int .i64 0, .int .i64 0] 86)).alloc (.cells #[.int .i64 0, .int .i64 0] 31)) = V := ⟨_, rfl⟩
  rw [hV] at Z0 ⊢
  clear hV
  go_cut [13, 14] from 45 to 35 (fun p q wc => ∃ A B : Nat, p = .pointer (some ⟨A, 0, none⟩) ∧ q = .pointer (some ⟨B, 0, none⟩) ∧ w.heap.size + 8 ≤ A ∧ w.heap.size + 8 ≤ B ∧ A ≠ B ∧ OAt w a b s t 0 0 0 0 0 0 wc ∧ Arr wc A c0 c1 ∧ Arr wc B d0 d1)
  case first =>
    have Z := Z0
    have S0 := Z0.four
    have hZ := Z.hS
    have T1 := tok
    rw [← wrap_small (n := r + m) (by omega) (by omega)] at q
    go_region_held3 (fun w' => w'.cell? ⟨w.heap.size, 0, none⟩ = some (.int .i64 a) ∧ w'.cell? ⟨w.heap.size, 1, none⟩ = some (.int .i64 b) ∧ w'.cell? ⟨w.heap.size + 1, 0, none⟩ = some (.int .i64 s) ∧ w'.cell? ⟨w.heap.size + 1, 1, none⟩ = some (.int .i64 t))
      (first | with_reducible exact Z.four | (refine OAt.four (x0 := 0) (x1 := 0) (y0 := 0) (y1 := 0) (z0 := 0) (z1 := 0) ?_; repeat (first | with_reducible exact Z | with_reducible refine OAt.drew ?_ | with_reducible refine OAt.alloc ?_ _ | with_reducible refine OAt.far ?_ (by omega) _)))
      (first
      | (clear T1; go_at_call 139; refine (p _).mono ?_; rintro e v1 ⟨rfl, b1⟩; have bb : Below V.heap.size V v1 := (by first | with_reducible exact dr0 b1 | with_reducible exact dr1 b1 | with_reducible exact dr2 b1); replace Z := Z.kept bb; have hZ1 := Z.hS; have hZ2 : V.heap.size ≤ v1.heap.size := bb.size; (first | (have PP := (by with_reducible exact two_newd b1); obtain ⟨P1, P2, P3⟩ := PP) | (have PP := (by with_reducible exact one_newd b1); obtain ⟨P1, P3⟩ := PP) | skip); clear bb b1)
      | (go_at_call 139; refine (q _).mono ?_; rintro e v2 ⟨rfl, b2⟩; have bb : Below v1.heap.size v1 v2 := (by first | with_reducible exact b2 | with_reducible exact up1 b2 | with_reducible exact up2 b2); replace Z := Z.kept bb; have hZ3 := Z.hS; have hZ4 := bb.size; (try replace P1 := P1.kept bb); (try replace P2 := P2.kept bb); (first | (have PP := (by with_reducible exact two_new b2); obtain ⟨Q1, Q2, Q3⟩ := PP) | (have PP := (by with_reducible exact one_new b2); obtain ⟨Q1, Q3⟩ := PP) | skip); clear bb b2; (try obtain ⟨_, _, _, _⟩ := id P1); (try obtain ⟨_, _, _, _⟩ := P1.alloc (.cells #[.int .i64 0, .int .i64 0] 31)); (try obtain ⟨_, _, _, _⟩ := P1.alloc (.cells #[.int .i64 c0, .int .i64 c1] 31)); (try obtain ⟨_, _, _, _⟩ := id P2); (try obtain ⟨_, _, _, _⟩ := P2.alloc (.cells #[.int .i64 0, .int .i64 0] 31)); (try obtain ⟨_, _, _, _⟩ := P2.alloc (.cells #[.int .i64 c0, .int .i64 c1] 31)); (try obtain ⟨_, _, _, _⟩ := id Q1); (try obtain ⟨_, _, _, _⟩ := Q1.alloc (.cells #[.int .i64 0, .int .i64 0] 31)); (try obtain ⟨_, _, _, _⟩ := Q1.alloc (.cells #[.int .i64 c0, .int .i64 c1] 31)); (try obtain ⟨_, _, _, _⟩ := id Q2); (try obtain ⟨_, _, _, _⟩ := Q2.alloc (.cells #[.int .i64 0, .int .i64 0] 31)); (try obtain ⟨_, _, _, _⟩ := Q2.alloc (.cells #[.int .i64 c0, .int .i64 c1] 31)); (try have : V.heap.size ≠ v1.heap.size := (by omega)); (try have : v1.heap.size ≠ V.heap.size := (by omega)); (try have : V.heap.size + 1 ≠ v2.heap.size := (by omega)); (try have : V.heap.size ≠ v2.heap.size := (by omega)); (try have : v1.heap.size ≠ v2.heap.size := (by omega)); (try have : v2.heap.size ≠ v1.heap.size := (by omega)); (try have : v2.heap.size ≠ V.heap.size := (by omega))))
    all_goals
      go_wp2
      go_meet
      refine ⟨_, _, rfl, rfl, by omega, by omega, by omega, ?_, ?_, ?_⟩
      · repeat (first | with_reducible exact Z | with_reducible refine OAt.alloc ?_ _ | with_reducible refine OAt.far ?_ (by omega) _)
      all_goals
        repeat (first
          | with_reducible exact Q1
          | with_reducible exact Q2
          | with_reducible exact P1
          | with_reducible exact P2
          | (with_reducible refine Arr.new _ _ ?_ _ _; first | (with_reducible rfl) | (simp; done))
          | with_reducible refine Arr.set1 (b := 0) ?_ _
          | with_reducible refine Arr.set0 (a := 0) ?_ _
          | with_reducible refine Arr.far ?_ (by omega) _
          | with_reducible refine Arr.alloc ?_ _)
  case rest =>
    clear p q Z0
    obtain ⟨A, B, rfl, rfl, hA8, hB8, hAB, Z, XA, XB⟩ := hcut
    go_wp2
    go_loopw [36] (fun i wr => (i = .int .i64 0 ∧ OAt w a b s t 0 0 0 0 0 0 wr ∨ i = .int .i64 1 ∧ OAt w a b s t c0 0 (a + s - d0) 0 (d0 - c0) 0 wr ∨ i = .int .i64 2 ∧ OAt w a b s t c0 c1 (a + s - d0) (b + t - d1) (d0 - c0) (d1 - c1) wr) ∧ Arr wr A c0 c1 ∧ Arr wr B d0 d1) (fun i _ => 2 - (intOf i).toNat)
    case atStart => exact ⟨.inl ⟨rfl, Z⟩, XA, XB⟩
    case round =>
      clear Z XA XB
      obtain ⟨⟨rfl, Z⟩ | ⟨rfl, Z⟩ | ⟨rfl, Z⟩, XA, XB⟩ := hrel
      · obtain ⟨⟨e0, e1, _, _⟩, ⟨e2, e3, _, _⟩, _, _, ⟨e4, e5, e6, e7, e8, e9, f4, f5, f6, f7, f8, f9⟩, ⟨e10, e11, f10, f11⟩, _, _⟩ := id Z
        obtain ⟨xa0, xa1, _, _⟩ := id XA
        obtain ⟨xb0, xb1, _, _⟩ := id XB
        go_wp2
        replace Z := Z.came0 c0
        replace XA := XA.far (o := 2) (D := w.heap.size + 1 + 1 + 1 + 1 + 1 + 1) (by omega) (.int .i64 c0)
        replace XB := XB.far (o := 2) (D := w.heap.size + 1 + 1 + 1 + 1 + 1 + 1) (by omega) (.int .i64 c0)
        clear e0 e1 e2 e3 e4 e5 e6 e7 e8 e9 e10 e11 f4 f5 f6 f7 f8 f9 f10 f11 xa0 xa1 xb0 xb1
        obtain ⟨W1, hW1⟩ : ∃ W1, wr.setCell ⟨w.heap.size + 1 + 1 + 1 + 1 + 1 + 1, 2, none⟩ (.int .i64 c0) = W1 := ⟨_, rfl⟩
        rw [hW1] at Z XA XB ⊢
        clear hW1
        obtain ⟨⟨e0, e1, _, _⟩, ⟨e2, e3, _, _⟩, _, _, ⟨e4, e5, e6, e7, e8, e9, f4, f5, f6, f7, f8, f9⟩, ⟨e10, e11, f10, f11⟩, _, _⟩ := id Z
        obtain ⟨xa0, xa1, _, _⟩ := id XA
        obtain ⟨xb0, xb1, _, _⟩ := id XB
        go_region
        go_wp2
        replace Z := (Z.left0 (d0 - c0)).drew
        replace XA := (XA.far (o := 0) (D := w.heap.size + 1 + 1 + 1 + 1 + 1 + 1 + 1) (by omega) (.int .i64 (d0 - c0))).drewN 1
        replace XB := (XB.far (o := 0) (D := w.heap.size + 1 + 1 + 1 + 1 + 1 + 1 + 1) (by omega) (.int .i64 (d0 - c0))).drewN 1
        change Arr (W1.setCell ⟨w.heap.size + 1 + 1 + 1 + 1 + 1 + 1 + 1, 0, none⟩ (.int .i64 (d0 - c0))).drew _ _ _ at XA
        change Arr (W1.setCell ⟨w.heap.size + 1 + 1 + 1 + 1 + 1 + 1 + 1, 0, none⟩ (.int .i64 (d0 - c0))).drew _ _ _ at XB
        clear e0 e1 e2 e3 e4 e5 e6 e7 e8 e9 e10 e11 f4 f5 f6 f7 f8 f9 f10 f11 xa0 xa1 xb0 xb1
        obtain ⟨W2, hW2⟩ : ∃ W2, (W1.setCell ⟨w.heap.size + 1 + 1 + 1 + 1 + 1 + 1 + 1, 0, none⟩ (.int .i64 (d0 - c0))).drew = W2 := ⟨_, rfl⟩
        rw [hW2] at Z XA XB ⊢
        clear hW2
        obtain ⟨⟨e0, e1, _, _⟩, ⟨e2, e3, _, _⟩, _, _, ⟨e4, e5, e6, e7, e8, e9, f4, f5, f6, f7, f8, f9⟩, ⟨e10, e11, f10, f11⟩, _, _⟩ := id Z
        obtain ⟨xa0, xa1, _, _⟩ := id XA
        obtain ⟨xb0, xb1, _, _⟩ := id XB
        go_region
        go_wp2
        replace Z := (Z.lost0 (a + s - d0)).drew
        replace XA := (XA.far (o := 4) (D := w.heap.size + 1 + 1 + 1 + 1 + 1 + 1) (by omega) (.int .i64 (a + s - d0))).drewN 1
        replace XB := (XB.far (o := 4) (D := w.heap.size + 1 + 1 + 1 + 1 + 1 + 1) (by omega) (.int .i64 (a + s - d0))).drewN 1
        go_roundw
        case rel => exact ⟨.inr (.inl ⟨rfl, Z⟩), XA, XB⟩
        case measure => simp [intOf]
      · obtain ⟨⟨e0, e1, _, _⟩, ⟨e2, e3, _, _⟩, _, _, ⟨e4, e5, e6, e7, e8, e9, f4, f5, f6, f7, f8, f9⟩, ⟨e10, e11, f10, f11⟩, _, _⟩ := id Z
        obtain ⟨xa0, xa1, _, _⟩ := id XA
        obtain ⟨xb0, xb1, _, _⟩ := id XB
        go_wp2
        replace Z := Z.came1 c1
        replace XA := XA.far (o := 3) (D := w.heap.size + 1 + 1 + 1 + 1 + 1 + 1) (by omega) (.int .i64 c1)
        replace XB := XB.far (o := 3) (D := w.heap.size + 1 + 1 + 1 + 1 + 1 + 1) (by omega) (.int .i64 c1)
        clear e0 e1 e2 e3 e4 e5 e6 e7 e8 e9 e10 e11 f4 f5 f6 f7 f8 f9 f10 f11 xa0 xa1 xb0 xb1
        obtain ⟨W1, hW1⟩ : ∃ W1, wr.setCell ⟨w.heap.size + 1 + 1 + 1 + 1 + 1 + 1, 3, none⟩ (.int .i64 c1) = W1 := ⟨_, rfl⟩
        rw [hW1] at Z XA XB ⊢
        clear hW1
        obtain ⟨⟨e0, e1, _, _⟩, ⟨e2, e3, _, _⟩, _, _, ⟨e4, e5, e6, e7, e8, e9, f4, f5, f6, f7, f8, f9⟩, ⟨e10, e11, f10, f11⟩, _, _⟩ := id Z
        obtain ⟨xa0, xa1, _, _⟩ := id XA
        obtain ⟨xb0, xb1, _, _⟩ := id XB
        go_region
        go_wp2
        replace Z := (Z.left1 (d1 - c1)).drew
        replace XA := (XA.far (o := 1) (D := w.heap.size + 1 + 1 + 1 + 1 + 1 + 1 + 1) (by omega) (.int .i64 (d1 - c1))).drewN 1
        replace XB := (XB.far (o := 1) (D := w.heap.size + 1 + 1 + 1 + 1 + 1 + 1 + 1) (by omega) (.int .i64 (d1 - c1))).drewN 1
        change Arr (W1.setCell ⟨w.heap.size + 1 + 1 + 1 + 1 + 1 + 1 + 1, 1, none⟩ (.int .i64 (d1 - c1))).drew _ _ _ at XA
        change Arr (W1.setCell ⟨w.heap.size + 1 + 1 + 1 + 1 + 1 + 1 + 1, 1, none⟩ (.int .i64 (d1 - c1))).drew _ _ _ at XB
        clear e0 e1 e2 e3 e4 e5 e6 e7 e8 e9 e10 e11 f4 f5 f6 f7 f8 f9 f10 f11 xa0 xa1 xb0 xb1
        obtain ⟨W2, hW2⟩ : ∃ W2, (W1.setCell ⟨w.heap.size + 1 + 1 + 1 + 1 + 1 + 1 + 1, 1, none⟩ (.int .i64 (d1 - c1))).drew = W2 := ⟨_, rfl⟩
        rw [hW2] at Z XA XB ⊢
        clear hW2
        obtain ⟨⟨e0, e1, _, _⟩, ⟨e2, e3, _, _⟩, _, _, ⟨e4, e5, e6, e7, e8, e9, f4, f5, f6, f7, f8, f9⟩, ⟨e10, e11, f10, f11⟩, _, _⟩ := id Z
        obtain ⟨xa0, xa1, _, _⟩ := id XA
        obtain ⟨xb0, xb1, _, _⟩ := id XB
        go_region
        go_wp2
        replace Z := (Z.lost1 (b + t - d1)).drew
        replace XA := (XA.far (o := 5) (D := w.heap.size + 1 + 1 + 1 + 1 + 1 + 1) (by omega) (.int .i64 (b + t - d1))).drewN 1
        replace XB := (XB.far (o := 5) (D := w.heap.size + 1 + 1 + 1 + 1 + 1 + 1) (by omega) (.int .i64 (b + t - d1))).drewN 1
        go_roundw
        case rel => exact ⟨.inr (.inr ⟨rfl, Z⟩), XA, XB⟩
        case measure => simp [intOf]
      · obtain ⟨_, _, ⟨i0, i1, i2, i3, i4, i5, l0, l1, l2, l3, l4, l5⟩, ⟨i6, i7, l6, l7⟩, ⟨e4, e5, e6, e7, e8, e9, _, _, _, _, _, _⟩, ⟨e10, e11, _, _⟩, hB, _⟩ := id Z
        go_wp2
        go_region
        go_wp2
        have O := otold Z.h8 Z.h9 hB s t c0 c1 (a + s - d0) (b + t - d1) (d0 - c0) (d1 - c1)
        obtain ⟨W3, hW3⟩ : ∃ W3, ((((((((wr.setCell ⟨w.heap.size + 1 + 1, 0, none⟩ (.int .i64 s)).setCell ⟨w.heap.size + 1 + 1, 1, none⟩ (.int .i64 t)).setCell ⟨w.heap.size + 1 + 1, 2, none⟩ (.int .i64 c0)).setCell ⟨w.heap.size + 1 + 1, 3, none⟩ (.int .i64 c1)).setCell ⟨w.heap.size + 1 + 1, 4, none⟩ (.int .i64 (a + s - d0))).setCell ⟨w.heap.size + 1 + 1, 5, none⟩ (.int .i64 (b + t - d1))).setCell ⟨w.heap.size + 1 + 1 + 1, 0, none⟩ (.int .i64 (d0 - c0))).setCell ⟨w.heap.size + 1 + 1 + 1, 1, none⟩ (.int .i64 (d1 - c1))).drew = W3 := ⟨_, rfl⟩
        rw [hW3] at O ⊢
        obtain ⟨P, Q, b3⟩ := O
        exact bodyPost_ret (v := .tuple #[.agg #[.int .i64 s, .int .i64 t, .int .i64 c0, .int .i64 c1, .int .i64 (a + s - d0), .int .i64 (b + t - d1)], .agg #[.int .i64 (d0 - c0), .int .i64 (d1 - c1)], .int .i64 0]) (by simp [results, Tryz.results106, go_sem, P.c0, P.c1, P.c2, P.c3, P.c4, P.c5, Q.c0, Q.c1]) rfl ⟨rfl, b3⟩

theorem opass_yes (r m a b s t : Int) (h : lr r m a b s t) (w : World) :
    Calls Tryz.prog 106 #[.int .i64 r, .int .i64 m, .agg #[.int .i64 a, .int .i64 b], .agg #[.int .i64 s, .int .i64 t]] w fun e w' =>
      e = .returned (.tuple #[.agg #[.int .i64 s, .int .i64 t, .int .i64 (C0 r a b s t), .int .i64 (C1 r a b s t), .int .i64 (L0 r m a b s t), .int .i64 (L1 r m a b s t)], .agg #[.int .i64 (W0 r m a b s t), .int .i64 (W1 r m a b s t)], .int .i64 0]) ∧ Below w.heap.size w w' := by
  obtain ⟨i1, i2, i3, i4, i5, i6⟩ := inside r m a b s t h
  have hr := fun v => oright_is r m a b s t true (decide_eq_true h) v
  unfold lr at h
  have p := fun v => upto_any r a b s t v (by omega) (by omega) (by omega) (by omega) (by omega)
  have q := fun v => upto_any (r + m) a b s t v (by omega) (by omega) (by omega) (by omega) (by omega)
  unfold C0 at i1
  unfold C1 at i2
  unfold L0 at i3
  unfold L1 at i4
  unfold W0 at i5
  unfold W1 at i6
  exact opass_of r m a b s t _ _ _ _ w hr p q (by omega) (by omega) (by omega) (by omega) (by omega) (by omega) (by omega) (by omega) i1 i2 (by omega) (by omega)

end Go.Proofs.YtjageagnclmnjaaGreatDoor.K
