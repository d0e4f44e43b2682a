/- PROVED: what duel.senderOf, within answer. CONDITIONS: none beyond each theorem's own. -/
import Derived.Test.YtjageagnclmnjaaDoorDMem
import Derived.Test.YtjageagnclmnjaaDoorKSmall
import Derived.Laws.EntriesVeiled
namespace Go.Proofs.YtjageagnclmnjaaDoor.D
open Go.RowKit K

/-- the functions of a kind: New, Right, Next -/
def stF (k : Int) : Nat := if k = 1 then 26 else if k = 2 then 29 else 32
def rtF (k : Int) : Nat := if k = 1 then 27 else if k = 2 then 30 else 33
def nxF (k : Int) : Nat := if k = 1 then 28 else if k = 2 then 31 else 34

theorem sender_yes (k : Int) (h : 1 ≤ k ∧ k ≤ 3) (w : World) :
    Calls Tryd.prog 18 #[.int .i64 k] w fun e w' => e = .returned (.tuple #[.agg #[.func (.func (stF k)) #[] #[], .func (.func (rtF k)) #[] #[], .func (.func (nxF k)) #[] #[]], .bool true]) ∧ Below w.heap.size w w' := by
  obtain rfl | rfl | rfl : k = 1 ∨ k = 2 ∨ k = 3 := by omega
  all_goals
    clear h
    go_enter Tryd.func18, Tryd.ntmps18
    go_wp2
    refine bodyPost_ret (by simp [results, Tryd.results18, go_sem, stF, rtF, nxF]) rfl ⟨rfl, ?_⟩
    repeat (with_reducible refine Below.setCell ?_ (by simp) _)
    exact balloc (Below.refl _ _) _

theorem sender_no (k : Int) (h1 : (k == 1) = false) (h2 : (k == 2) = false) (h3 : (k == 3) = false) (w : World) :
    Calls Tryd.prog 18 #[.int .i64 k] w fun e w' => e = .returned (.tuple #[.agg #[.nilFunc, .nilFunc, .nilFunc], .bool false]) ∧ Below w.heap.size w w' := by
  go_enter Tryd.func18, Tryd.ntmps18
  go_wp2
  refine bodyPost_ret (by simp [results, Tryd.results18, go_sem]) rfl ⟨rfl, ?_⟩
  repeat (with_reducible refine Below.setCell ?_ (by simp) _)
  exact balloc (Below.refl _ _) _

/-- what a kind offers, in block C -/
structure Snd (w : World) (C : Nat) (P Q S : Nat) : Prop where
  c0 : w.cell? ⟨C, 0, none⟩ = some (.func (.func P) #[] #[])
  c1 : w.cell? ⟨C, 1, none⟩ = some (.func (.func Q) #[] #[])
  c2 : w.cell? ⟨C, 2, none⟩ = some (.func (.func S) #[] #[])
theorem Snd.new (w : World) (C : Nat) (hC : C = w.heap.size) (P Q S : Nat) : Snd (w.alloc (.cells #[.func (.func P) #[] #[], .func (.func Q) #[] #[], .func (.func S) #[] #[]] 43)) C P Q S := by
  subst hC
  constructor <;> (rw [World.cell?_alloc_at _ _ _ _ rfl]; rfl)
theorem Snd.kept {w w' : World} {C P Q S : Nat} (h : Snd w C P Q S) (g : Below w.heap.size w w') : Snd w' C P Q S := by
  have hl : C < w.heap.size := block_lt h.c0
  exact ⟨(g.cell (p := ⟨C, 0, none⟩) hl).trans h.c0, (g.cell (p := ⟨C, 1, none⟩) hl).trans h.c1, (g.cell (p := ⟨C, 2, none⟩) hl).trans h.c2⟩
theorem Snd.far {w : World} {C P Q S D o : Nat} (h : Snd w C P Q S) (hD : D ≠ C) (v : Value) : Snd (w.setCell ⟨D, o, none⟩ v) C P Q S :=
  ⟨(World.cell?_setCell_other _ _ _ _ (fun p => hD (by injection p))).trans h.c0, (World.cell?_setCell_other _ _ _ _ (fun p => hD (by injection p))).trans h.c1, (World.cell?_setCell_other _ _ _ _ (fun p => hD (by injection p))).trans h.c2⟩
theorem Snd.drew {w : World} {C P Q S : Nat} (h : Snd w C P Q S) : Snd w.drew C P Q S := h.kept (below_drewN (Below.refl _ _) 1)

theorem within_any (n l h : Int) (w : World) :
    Calls Tryd.prog 19 #[.int .i64 n, .int .i64 l, .int .i64 h] w fun e w' => e = .returned (.bool (decide (l ≤ n) && decide (n ≤ h))) ∧ w' = w := by
  by_cases h1 : l ≤ n
  · go_enter Tryd.func19, Tryd.ntmps19
    go_wp2
    go_ret
    exact ⟨by simp [h1], rfl⟩
  · have h2 : decide (l ≤ n) = false := decide_eq_false h1
    go_enter Tryd.func19, Tryd.ntmps19
    go_wp2
    go_ret
    exact ⟨by simp, rfl⟩
theorem within_is (n l h : Int) (t : Bool) (e : (decide (l ≤ n) && decide (n ≤ h)) = t) (w : World) :
    Calls Tryd.prog 19 #[.int .i64 n, .int .i64 l, .int .i64 h] w fun e w' => e = .returned (.bool t) ∧ w' = w := by
  subst e; exact within_any n l h w

end Go.Proofs.YtjageagnclmnjaaDoor.D
