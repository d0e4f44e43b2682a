/- PROVED: what the document's own queue answers: three rows that grow beside one another. CONDITIONS: none beyond each theorem's own. -/
import Derived.Test.YtmhdodlgbbaonaaQPlay
import Derived.Test.YtmhdodlgbbaonaaRefRight
import Derived.Maps.AppendAt
namespace Go.Proofs.Ytmhdodlgbbaonaa
open Go.RowKit

/-- two slices that share no block -/
def Apart (a b : Value) : Prop := ∀ g, a.ownBlock = some g → b.ownBlock ≠ some g
theorem Apart.symm {a b : Value} (h : Apart a b) : Apart b a := fun g h1 h2 => h g h2 h1
theorem Apart.row {a b : Value} (h : Apart a b) : b.ownBlock = none ∨ b.ownBlock ≠ a.ownBlock := by
  cases e : a.ownBlock with
  | none => cases e2 : b.ownBlock with
    | none => exact .inl rfl
    | some g => exact .inr (by simp)
  | some g => exact .inr (h g e)
/-- three rows that grow, each in a block of its own -/
structure Three (w v : World) (a b c : Value) (X Y Z : List Int) : Prop where
  x : v.ownsRow w.heap.size 3 1 a X.length (X.map (Value.int .i64))
  y : v.ownsRow w.heap.size 3 1 b Y.length (Y.map (Value.int .i64))
  z : v.ownsRow w.heap.size 3 1 c Z.length (Z.map (Value.int .i64))
  xy : Apart a b
  xz : Apart a c
  yz : Apart b c
  below : Below w.heap.size w v
theorem Three.turn {w v : World} {a b c : Value} {X Y Z : List Int} (h : Three w v a b c X Y Z) : Three w v b c a Y Z X := ⟨h.y, h.z, h.x, h.yz, h.xy.symm, h.xz.symm, h.below⟩
theorem Three.start {w v : World} (hb : Below w.heap.size w v) : Three w v (.slice none 0 0) (.slice none 0 0) (.slice none 0 0) [] [] [] :=
  ⟨World.ownsRow_nil _ _ _ _, World.ownsRow_nil _ _ _ _, World.ownsRow_nil _ _ _ _, fun g h => by simp [Value.ownBlock] at h, fun g h => by simp [Value.ownBlock] at h, fun g h => by simp [Value.ownBlock] at h, hb⟩
theorem Three.put {w v v2 : World} {a b c t : Value} {X Y Z : List Int} (h : Three w v a b c X Y Z) {x : Int} {o : Obj}
    (ho : v2.ownsRow w.heap.size 3 1 t (X.length + 1) (X.map (Value.int .i64) ++ [.int .i64 x])) (hg : (v.alloc o).grownBy v2 a.ownBlock) (hw : t.ownBlock = a.ownBlock ∨ t.ownBlock = some (v.alloc o).heap.size) :
    Three w v2 t b c (X ++ [x]) Y Z := by
  have hs : (v.alloc o).heap.size = v.heap.size + 1 := by simp
  have hap : ∀ {d : Value} {D : List Int}, v.ownsRow w.heap.size 3 1 d D.length (D.map (Value.int .i64)) → Apart a d → Apart t d := fun hd ha g h1 h2 => by
    rcases hw with e | e
    · exact ha g (e ▸ h1) h2
    · have := (hd.lt g h2).2
      rw [h1] at e
      injection e with e
      omega
  have b1 := balloc h.below o
  exact ⟨by simpa using ho, (h.y.alloc o).kept hg h.xy.row, (h.z.alloc o).kept hg h.xz.row, hap h.y h.xy, hap h.z h.xz, h.yz, b1.grown hg b1.size (fun q hq => (h.x.lt q hq).1)⟩

theorem own_ans {w v : World} {t : Value} {X : List Int} (h : v.ownsRow w.heap.size 3 1 t X.length (X.map (Value.int .i64))) : ∃ ao cap, t = .slice ao X.length cap ∧ X.length ≤ cap ∧ Row v ao X := owned_cap h
theorem Three.done {w v : World} {a b c : Value} {n : Nat} {f g h : Nat → Int} (t : Three w v a b c (outs f n) (outs g n) (outs h n)) : Ans3 w n (outs f n) (outs g n) (outs h n) (.returned (.tuple #[a, b, c])) v := by
  obtain ⟨a1, c1, rfl, l1, r1⟩ := owned_cap t.x
  obtain ⟨a2, c2, rfl, l2, r2⟩ := owned_cap t.y
  obtain ⟨a3, c3, rfl, l3, r3⟩ := owned_cap t.z
  rw [outs_len] at l1
  exact ⟨a1, c1, a2, c2, a3, c3, by rw [outs_len, outs_len, outs_len], l1, r1, r2, r3, t.below⟩

set_option maxHeartbeats 3200000 in
theorem gplay_any (R M : Int) (a : Option Addr) (cap : Nat) (z : List Int) (w : World) (hz : Row w a z) (h : bright R M z) :
    Calls Try.prog 10 #[.int .i64 R, .int .i64 M, .slice a z.length cap] w (Ans3 w z.length (outs (qg R M fun j => z.getD j 0) z.length) (outs (ql R M fun j => z.getD j 0) z.length) (outs (qw R M fun j => z.getD j 0) z.length)) := by
  obtain ⟨i0, hi, hz0, hz1, hz2'⟩ := info_parts Try.info3
  have hb := fright_any R M a cap z w hz (by have := h.2.2.1; omega)
  rw [decide_eq_true h] at hb
  obtain ⟨hR, hM, hn0, hF⟩ := h
  obtain ⟨n, hn⟩ : ∃ n, z.length = n := ⟨_, rfl⟩
  have hz2 : Hid (Row w a z) := hz
  unfold allIn at hF
  rw [hn] at hb hn0 hF ⊢
  replace hn : Hid (z.length = n) := hn
  have hz3 : ∀ v, Below w.heap.size w v → 0 < n → ∃ b o, a = some ⟨b, o, none⟩ ∧ ∀ j, j < n → v.cell? ⟨b, o + j, none⟩ = some (.int .i64 (z.getD j 0)) := fun v hv hp => by
    obtain ⟨b, o, e, k⟩ := (hz2.out.kept hv).at (by rw [hn.out]; exact hp)
    exact ⟨b, o, e, fun j hj => k j (by rw [hn.out]; exact hj)⟩
  replace hz3 : Hid _ := hz3
  clear hz
  generalize hFd : (fun j => z.getD j 0) = F
  have hFF : ∀ j, z.getD j 0 = F j := fun j => by rw [← hFd]
  clear hFd
  have hFi : ∀ j, j < n → inr (F j) := fun j hj => by rw [← hFF]; exact hF j hj
  replace hFF : Hid _ := hFF
  clear hF
  have hst := qu_in hR hM hFi
  have hinr := hFi
  replace hst : Hid _ := hst
  replace hinr : Hid _ := hinr
  clear hFi
  unfold inr at hR hM
  go_enter Try.func10, Try.ntmps10
  go_wp2_with (go_at_call 12; refine hb.mono ?_; rintro e w1 ⟨rfl, b1⟩; clear hb)
  go_loopw [6, 7, 8, 9, 22] (fun g l q lv i wr => ∃ k : Nat, k ≤ n ∧ i = .int .i64 k ∧ lv = .int .i64 (qu R M F k) ∧ Three w wr g l q (outs (qg R M F) k) (outs (ql R M F) k) (outs (qw R M F) k)) (fun _ _ _ _ i _ => n - (intOf i).toNat)
  case atStart => exact ⟨0, Nat.zero_le _, rfl, rfl, Three.start b1⟩
  case round =>
    obtain ⟨k, hk, rfl, rfl, hT⟩ := hrel
    by_cases hlt : k < n
    · obtain ⟨b, o, rfl, e1⟩ := hz3.out wr hT.below (by omega)
      have cx := e1 k hlt
      rw [hFF.out] at cx
      clear e1
      have hgo : Hid (qg R M F k = min (qu R M F k + F k) R) := rfl
      have hlo : Hid (ql R M F k = max (qu R M F k + F k - min (qu R M F k + F k) R - M) 0) := rfl
      have hqw : Hid (qw R M F k = qu R M F k + F k - min (qu R M F k + F k) R - max (qu R M F k + F k - min (qu R M F k + F k) R - M) 0) := rfl
      have hqu : Hid (qu R M F (k + 1) = qu R M F k + F k - min (qu R M F k + F k) R - max (qu R M F k + F k - min (qu R M F k + F k) R - M) 0) := rfl
      have hlI : (k : Int) < n := by omega
      have i1 := hst.out k hk
      have i3 := hinr.out k hlt
      unfold inr at i3
      have hl1 := outs_len (qg R M F) k
      have hl2 := outs_len (ql R M F) k
      have hl3 := outs_len (qw R M F) k
      have ho1 := hT.x
      have T1 : Hid True := trivial
      have T2 : Hid True := trivial
      have T3 : Hid True := trivial
      generalize F k = x at *
      generalize qu R M F k = W at *
      have g1 : Hid (qg R M F k = W + x - max (W + x - R) 0) := by show _ = _; rw [hgo.out]; omega
      have g2 : Hid (ql R M F k = max (W + x - R) 0 - min (max (W + x - R) 0) M) := by show _ = _; rw [hlo.out]; omega
      have g3 : Hid (qw R M F k = min (max (W + x - R) 0) M) := by show _ = _; rw [hqw.out]; omega
      have g4 : Hid (qu R M F (k + 1) = min (max (W + x - R) 0) M) := by show _ = _; rw [hqu.out]; omega
      clear hgo hlo hqw hqu
      go_wp2_with (first
        | (at_builtin; clear T1; refine wpList_append_own_at _ rfl _ _ 22 rfl w.heap.size 3 i0 (.int .i64 0) 1 8 Try.underlying22 hi hz0 hz1 hz2' rfl (by decide) _ _ _ rfl (hT.x.alloc _) ⟨wr.heap.size, 0, none⟩ 1 1 [.int .i64 (W + x - max (W + x - R) 0)] rfl rfl (cell_one_new _ _ _) (by simp [Value.oneCell']) (by unfold maxLen; omega) (by omega) (by have := hT.below.size; simp; omega) ?_; intro t1 v1 ho1 hg1 _ hw1; have hS1 := (hT.put ho1 hg1 hw1).turn; clear ho1 hg1 hw1 hT)
        | (at_builtin; clear T2; refine wpList_append_own_at _ rfl _ _ 22 rfl w.heap.size 3 i0 (.int .i64 0) 1 8 Try.underlying22 hi hz0 hz1 hz2' rfl (by decide) _ _ _ rfl (hS1.x.alloc _) ⟨v1.heap.size, 0, none⟩ 1 1 [.int .i64 (max (W + x - R) 0 - min (max (W + x - R) 0) M)] rfl rfl (cell_one_new _ _ _) (by simp [Value.oneCell']) (by unfold maxLen; omega) (by omega) (by have := hS1.below.size; simp; omega) ?_; intro t2 v2 ho2 hg2 _ hw2; have hS2 := (hS1.put ho2 hg2 hw2).turn; clear ho2 hg2 hw2 hS1)
        | (at_builtin; clear T3; refine wpList_append_own_at _ rfl _ _ 22 rfl w.heap.size 3 i0 (.int .i64 0) 1 8 Try.underlying22 hi hz0 hz1 hz2' rfl (by decide) _ _ _ rfl (hS2.x.alloc _) ⟨v2.heap.size, 0, none⟩ 1 1 [.int .i64 (min (max (W + x - R) 0) M)] rfl rfl (cell_one_new _ _ _) (by simp [Value.oneCell']) (by unfold maxLen; omega) (by omega) (by have := hS2.below.size; simp; omega) ?_; intro t3 v3 ho3 hg3 _ hw3; have hS3 := (hS2.put ho3 hg3 hw3).turn; clear ho3 hg3 hw3 hS2))
      go_roundw
      case rel => exact ⟨k + 1, by omega, by go_num, by rw [g4.out], by rw [outs_succ, outs_succ, outs_succ, g1.out, g2.out, g3.out]; exact hS3⟩
      case measure => simp [intOf]; omega
    · obtain rfl : k = n := by omega
      go_wp2
      go_ret3
      exact hT.done

end Go.Proofs.Ytmhdodlgbbaonaa
