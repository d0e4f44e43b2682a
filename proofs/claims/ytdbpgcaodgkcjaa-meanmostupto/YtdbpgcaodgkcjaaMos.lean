/- PROVED: what potential.Most and potential.Cycle answer. CONDITIONS: none beyond each theorem's own. -/
import Derived.Test.YtdbpgcaodgkcjaaClb
import Derived.Test.YtdbpgcaodgkcjaaGon
import Derived.Test.YtdbpgcaodgkcjaaWr
namespace Go.Proofs.Ytdbpgcaodgkcjaa
open Go.RowKit

/-- what is left of climbing -/
def Fin (n : Nat) (es : List Eg) (k : Nat) : Prop := k ≤ n ∧ ((cst es k).r = -1 ∧ (1 ≤ k ∨ n = 0) ∨ k = n ∧ (cst es k).r ≠ -1)

theorem cycle_wrong (n : Int) (a : Option Addr) (cap : Nat) (L : List Ed) (w : World) (hE : ERow w a L) (hl : L.length ≤ 9223372036854775807) (hg : ¬ grt n L) :
    Calls Try.prog 14 #[.agg #[.int .i64 n, .slice a L.length cap]] w fun e w' => e = .returned (.tuple #[.slice none 0 0, .int .i64 2]) ∧ Below w.heap.size w w' := by
  have hB0 : Below w.heap.size w (w.alloc (.cells #[.int .i64 n, .slice a L.length cap] 24)) := balloc (Below.refl _ _) _
  have hw := wrong_any n a cap L (w.alloc (.cells #[.int .i64 n, .slice a L.length cap] 24)) (hE.kept hB0) hl
  rw [gwr_no hg] at hw
  generalize L.length = k at *
  clear hE hg
  go_enter Try.func14, Try.ntmps14
  go_wp2_with (go_at_call 15; refine hw.mono ?_; rintro e w1 ⟨rfl, b1⟩; clear hw)
  go_ret2
  exact ⟨rfl, bthen hB0 b1⟩

theorem Cb.boxed {n : Nat} {s : St} (w : World) {M A : Nat} (hM : Cells w M n s.d) (hA : Cells w A n s.l) (hn : 0 < n) (ma : M ≠ A) :
    Cb (w.alloc (.cells #[.slice (some ⟨M, 0, none⟩) n n, .slice (some ⟨A, 0, none⟩) n n, .int .i64 s.r] 49)) w.heap.size M A n s := by
  have m1 : M < w.heap.size := block_lt (hM.c 0 hn)
  have m2 : A < w.heap.size := block_lt (hA.c 0 hn)
  exact ⟨by rw [World.cell?_alloc_at _ _ _ _ rfl]; rfl, by rw [World.cell?_alloc_at _ _ _ _ rfl]; rfl, by rw [World.cell?_alloc_at _ _ _ _ rfl]; rfl, by rw [World.frozen?_alloc_at _ _ _ _ rfl], hM.alloc _, hA.alloc _, by omega, by omega, ma⟩
theorem gone_at (n : Nat) (es : List Eg) (hG : Gph n es) (a : Option Addr) (cap m : Nat) (hm : es.length = m) (k M A : Nat) (w : World) (hf : (cst es k).r = -1 ∧ (1 ≤ k ∨ n = 0) ∨ k = n ∧ (cst es k).r ≠ -1) (hr : ((cst es k).r == -1) = false)
    (cd : Cells w M n (cst es k).d) (cl : Cells w A n (cst es k).l) (ma : M ≠ A) (hE : GRow w a es) :
    Calls Try.prog 24 #[.pointer (some ⟨w.heap.size, 0, none⟩), .agg #[.int .i64 n, .slice a m cap]] (w.alloc (.cells #[.slice (some ⟨M, 0, none⟩) n n, .slice (some ⟨A, 0, none⟩) n n, .int .i64 (cst es k).r] 49))
      fun e w' => ∃ v p g c, e = .returned (.slice (some ⟨g, 0, none⟩) p c) ∧ Rnd n es (cst es n) v p ∧ p ≤ c ∧ Cells w' g p (cyc n es (cst es n) v p) ∧ Below w.heap.size w w' := by
  have hne : (cst es k).r ≠ -1 := beq_eq_false_iff_ne.1 hr
  rcases hf with ⟨q, _⟩ | ⟨rfl, _⟩
  · exact absurd q hne
  · obtain ⟨v, p, hR⟩ := cst_rnd hG.inn hG.wgt hne
    have hb : Below w.heap.size w (w.alloc (.cells #[.slice (some ⟨M, 0, none⟩) k k, .slice (some ⟨A, 0, none⟩) k k, .int .i64 (cst es k).r] 49)) := balloc (Below.refl _ _) _
    rw [← hm]
    exact (gone_any k es hG _ v p hR w.heap.size M A a cap _ (hE.kept hb) (Cb.boxed w cd cl (by have := hR.vn; omega) ma)).mono fun e w' ⟨g, c, h1, h2, h3, h4⟩ => ⟨v, p, g, c, h1, hR, h2, h3, bthen hb h4⟩

set_option maxHeartbeats 3200000 in
theorem cycle_any (n : Nat) (es : List Eg) (hG : Gph n es) (a : Option Addr) (cap : Nat) (w : World) (hE : GRow w a es) :
    Calls Try.prog 14 #[.agg #[.int .i64 n, .slice a es.length cap]] w fun e w' => ∃ k, Fin n es k ∧ Below w.heap.size w w' ∧
      ((cst es k).r = -1 ∧ e = .returned (.tuple #[.slice none 0 0, .int .i64 3]) ∨ (cst es k).r ≠ -1 ∧ ∃ v p g c, e = .returned (.tuple #[.slice (some ⟨g, 0, none⟩) p c, .int .i64 0]) ∧ Rnd n es (cst es n) v p ∧ p ≤ c ∧ Cells w' g p (cyc n es (cst es n) v p)) := by
  have hm4 := hG.m4
  have hB0 : Below w.heap.size w (w.alloc (.cells #[.int .i64 n, .slice a es.length cap] 24)) := balloc (Below.refl _ _) _
  have hw := wrong_any n a cap (es.map upE) (w.alloc (.cells #[.int .i64 n, .slice a es.length cap] 24)) (ERow.kept hE hB0) (by rw [List.length_map]; omega)
  rw [gwr_yes (gph_grt hG), List.length_map] at hw
  have hcl : Hid (∀ v, GRow v a es → Calls Try.prog 23 #[.agg #[.int .i64 n, .slice a es.length cap]] v fun e w' => ∃ M A k : Nat, e = .returned (.agg #[.slice (some ⟨M, 0, none⟩) n n, .slice (some ⟨A, 0, none⟩) n n, .int .i64 (cst es k).r]) ∧ k ≤ n ∧ ((cst es k).r = -1 ∧ (1 ≤ k ∨ n = 0) ∨ k = n ∧ (cst es k).r ≠ -1) ∧ Cells w' M n (cst es k).d ∧ Cells w' A n (cst es k).l ∧ v.heap.size ≤ M ∧ v.heap.size ≤ A ∧ M ≠ A ∧ Below v.heap.size v w') := fun v h => climb_any n es hG a cap v h
  have K0 := Gb.new w n a es.length cap
  have hE0 := hE.kept hB0
  obtain ⟨w0, hw0⟩ : ∃ w0, w.alloc (.cells #[.int .i64 n, .slice a es.length cap] 24) = w0 := ⟨_, rfl⟩
  rw [hw0] at K0 hB0 hE0 hw
  obtain ⟨m, hm⟩ : ∃ m, es.length = m := ⟨_, rfl⟩
  rw [hm] at hm4 hw hcl K0 hw0 ⊢
  have hgn : Hid (∀ (k M A : Nat) (v : World), ((cst es k).r = -1 ∧ (1 ≤ k ∨ n = 0) ∨ k = n ∧ (cst es k).r ≠ -1) → ((cst es k).r == -1) = false → Cells v M n (cst es k).d → Cells v A n (cst es k).l → M ≠ A → GRow v a es →
    Calls Try.prog 24 #[.pointer (some ⟨v.heap.size, 0, none⟩), .agg #[.int .i64 n, .slice a m cap]] (v.alloc (.cells #[.slice (some ⟨M, 0, none⟩) n n, .slice (some ⟨A, 0, none⟩) n n, .int .i64 (cst es k).r] 49))
      fun e w' => ∃ u p g c, e = .returned (.slice (some ⟨g, 0, none⟩) p c) ∧ Rnd n es (cst es n) u p ∧ p ≤ c ∧ Cells w' g p (cyc n es (cst es n) u p) ∧ Below v.heap.size v w') := fun k M A v h1 h2 h3 h4 h5 h6 => gone_at n es hG a cap m hm k M A v h1 h2 h3 h4 h5 h6
  replace hm : Hid _ := hm
  obtain ⟨c0, c1⟩ := id K0
  clear hE
  go_enter Try.func14, Try.ntmps14
  go_wp2_with (first
    | (go_at_call 15; refine hw.mono ?_; rintro e w1 ⟨rfl, b1⟩; clear hw; have K1 := K0.kept b1; have hE1 := hE0.kept b1; clear K0 hE0 c0 c1; obtain ⟨c0, c1⟩ := id K1; have hB1 := bthen hB0 b1)
    | (go_at_call 23; refine (hcl.out _ hE1).mono ?_; rintro e w2 ⟨M, A, k, rfl, hk, hf, cd, cl, m1, m2, ma, b2⟩; clear hcl; have hB2 := bthen hB1 b2; replace hf : Hid _ := hf; have hE2 := hE1.kept b2; have K2 := K1.kept b2; clear c0 c1 K1 hE1; obtain ⟨c0, c1⟩ := id (K2.alloc (.cells #[.slice (some ⟨M, 0, none⟩) n n, .slice (some ⟨A, 0, none⟩) n n, .int .i64 (cst es k).r] 49)))
    | (go_at_call 24; have hne : ((cst es k).r == -1) = false := (by assumption); refine (hgn.out k M A w2 hf.out hne cd cl ma hE2).mono ?_; rintro e w3 ⟨u, p, g, c, rfl, hR, hpc, hF, b3⟩; clear hgn; have hB3 := bthen hB2 b3))
  · rename_i h
    go_ret2
    exact ⟨k, ⟨hk, hf.out⟩, balloc hB2 _, .inl ⟨by simpa using h, rfl⟩⟩
  · go_ret2
    exact ⟨k, ⟨hk, hf.out⟩, hB3, .inr ⟨by simpa using hne, u, p, g, c, rfl, hR, hpc, hF⟩⟩

end Go.Proofs.Ytdbpgcaodgkcjaa
