/- PROVED: what Cycle, Weigh and the document's own QWeigh answer, told by whether a way round weighs more than nothing; lengths as letters. CONDITIONS: none beyond each theorem's own. -/
import Derived.Test.YtdbpgcaodgkcjaaMos
import Derived.Test.YtdbpgcaodgkcjaaQWr
import Derived.Test.YtdbpgcaodgkcjaaQWei
namespace Go.Proofs.Ytdbpgcaodgkcjaa
open Go.RowKit

theorem ERow.drew {w : World} {ao : Option Addr} {L : List Ed} (h : ERow w ao L) : ERow w.drew ao L := h
theorem GRow.drew {w : World} {ao : Option Addr} {es : List Eg} (h : GRow w ao es) : GRow w.drew ao es := h
theorem Gb.drew {w : World} {O : Nat} {N : Int} {a : Option Addr} {m cap : Nat} (h : Gb w O N a m cap) : Gb w.drew O N a m cap := ⟨h.g, h.s⟩

theorem fin_mst {n : Nat} {es : List Eg} (hG : Gph n es) {k : Nat} (h : Fin n es k) (hr : (cst es k).r = -1) : Mst es (cst es k).d := by
  rcases h.2 with ⟨_, q⟩ | ⟨_, q⟩
  · exact cst_mst hG.inn hG.wgt q hr
  · exact absurd hr q
theorem fin_rnd {n : Nat} {es : List Eg} (hG : Gph n es) {k : Nat} (h : Fin n es k) (hr : (cst es k).r ≠ -1) : ¬ noPos es := by
  rcases h.2 with ⟨q, _⟩ | ⟨rfl, q⟩
  · exact absurd q hr
  · obtain ⟨v, p, hR⟩ := cst_rnd hG.inn hG.wgt q
    exact hR.some

/-- the numbers of a way round that weighs more than nothing -/
structure Rgo (n : Nat) (es : List Eg) (R : Nat → Nat) (p : Nat) : Prop where
  p1 : 1 ≤ p
  pn : p ≤ n
  wok : Wok es R p
  ends : (eg es (R 0)).f = (eg es (R (p - 1))).t
  pos : 0 < nsum es R p

section
variable (n : Nat) (es : List Eg) (hG : Gph n es) (a : Option Addr) (cap m : Nat) (hm : es.length = m)
include hG hm
theorem cycle_yes (hp : noPos es) (w : World) (hE : GRow w a es) :
    Calls Try.prog 14 #[.agg #[.int .i64 n, .slice a m cap]] w fun e w' => e = .returned (.tuple #[.slice none 0 0, .int .i64 3]) ∧ Below w.heap.size w w' := by
  rw [← hm]
  refine (cycle_any n es hG a cap w hE).mono fun e w' ⟨k, hf, hb, h⟩ => ?_
  rcases h with ⟨hr, he⟩ | ⟨hr, _⟩
  · exact ⟨he, hb⟩
  · exact absurd hp (fin_rnd hG hf hr)
theorem cycle_no (hp : ¬ noPos es) (w : World) (hE : GRow w a es) :
    Calls Try.prog 14 #[.agg #[.int .i64 n, .slice a m cap]] w fun e w' => ∃ g p c R, e = .returned (.tuple #[.slice (some ⟨g, 0, none⟩) p c, .int .i64 0]) ∧ Rgo n es R p ∧ p ≤ c ∧ Cells w' g p (fun j => (R j : Int)) ∧ Below w.heap.size w w' := by
  rw [← hm]
  refine (cycle_any n es hG a cap w hE).mono fun e w' ⟨k, hf, hb, h⟩ => ?_
  rcases h with ⟨hr, he⟩ | ⟨hr, v, p, g, c, he, hR, hpc, hF⟩
  · exact absurd (fin_mst hG hf hr).noPos hp
  · refine ⟨g, p, c, fun j => ((cst es n).l (nd es (cst es n) v (n + (p - 1 - j)))).toNat, he, ⟨hR.p1, hR.pn, hR.wok, hR.ends, hR.pos⟩, hpc, hF.ext fun j hj => ?_, hb⟩
    obtain ⟨q, h1, _⟩ := hR.hl (n + (p - 1 - j))
    show (((cst es n).l (nd es (cst es n) v (n + (p - 1 - j)))).toNat : Int) = (cst es n).l (nd es (cst es n) v (n + (p - 1 - j)))
    rw [h1]; rfl
theorem wrong_yes (w : World) (hE : GRow w a es) :
    Calls Try.prog 15 #[.agg #[.int .i64 n, .slice a m cap]] w fun e w' => e = .returned (.int .i64 0) ∧ Below w.heap.size w w' := by
  have hm4 := hG.m4
  have := wrong_any n a cap (es.map upE) w hE (by rw [List.length_map]; omega)
  rw [gwr_yes (gph_grt hG), List.length_map, hm] at this
  exact this
theorem qwrong_yes (w : World) (hE : GRow w a es) :
    Calls Try.prog 17 #[.agg #[.int .i64 n, .slice a m cap]] w fun e w' => e = .returned (.int .i64 0) ∧ Below w.heap.size w w' := by
  have hm4 := hG.m4
  have := qwrong_any n a cap (es.map upE) w hE (by rw [List.length_map]; omega)
  rw [gwr_yes (gph_grt hG), List.length_map, hm] at this
  exact this
theorem weigh_n (a1 : Option Addr) (cap1 p : Nat) (z : List Int) (hzp : z.length = p) (hl : p ≤ 9223372036854775807) (w : World) (hE : GRow w a es) (hz : Row w a1 z) (A1 A2 : Int) (hA : wge es z = (A1, A2)) :
    Calls Try.prog 13 #[.agg #[.int .i64 n, .slice a m cap], .slice a1 p cap1] w fun e w' => e = .returned (.tuple #[.int .i64 A1, .int .i64 A2]) ∧ Below w.heap.size w w' := by
  have := weigh_any n es hG a a1 cap cap1 z w hE hz (by omega)
  rw [hm, hzp, hA] at this
  exact this
theorem qweigh_n (a1 : Option Addr) (cap1 p : Nat) (z : List Int) (hzp : z.length = p) (hl : p ≤ 9223372036854775807) (w : World) (hE : GRow w a es) (hz : Row w a1 z) (A1 A2 : Int) (hA : wge es z = (A1, A2)) :
    Calls Try.prog 10 #[.agg #[.int .i64 n, .slice a m cap], .slice a1 p cap1] w fun e w' => e = .returned (.tuple #[.int .i64 A1, .int .i64 A2]) ∧ Below w.heap.size w w' := by
  have := qweigh_any n es hG a a1 cap cap1 z w hE hz (by omega)
  rw [hm, hzp, hA] at this
  exact this
end

/-- what a walk that is told by numbers weighs -/
theorem wsz_nsum {es : List Eg} (hw : Wgt es) {z : List Int} {R : Nat → Nat} (p : Nat) (hp : p ≤ 8796093022207) (h : ∀ j, j < p → z.getD j 0 = (R j : Int) ∧ R j < es.length) : wsz es z p = nsum es R p := by
  induction p with
  | zero => rfl
  | succ p ih =>
    have hr := nsum_range hw R (p + 1) fun j hj => (h j hj).2
    show wrap64 (wsz es z p + (eg es (z.getD p 0).toNat).x) = nsum es R p + (eg es (R p)).x
    rw [ih (by omega) fun j hj => h j (by omega), (h p (by omega)).1, Int.toNat_natCast]
    exact IntWalk.wrap64_in _ (by
      have e : nsum es R (p + 1) = nsum es R p + (eg es (R p)).x := rfl
      rw [← e]; omega)
theorem wge_wok {n : Nat} {es : List Eg} (hG : Gph n es) {R : Nat → Nat} {p : Nat} (hp : p ≤ 300) (h : Wok es R p) : wge es (outs (fun j => (R j : Int)) p) = (nsum es R p, 0) := by
  have hg : ∀ j, j < p → (outs (fun j => (R j : Int)) p).getD j 0 = (R j : Int) := fun j hj => outs_getD _ _ _ hj
  rw [wge_yes, outs_len, wsz_nsum hG.wgt p (by omega) fun j hj => ⟨hg j hj, (h j hj).1⟩]
  rw [outs_len]
  intro j hj
  obtain ⟨h1, h2⟩ := h j hj
  refine ⟨by rw [hg j hj]; omega, by rw [hg j hj]; omega, fun h0 => ?_⟩
  rw [hg j hj, hg (j - 1) (by omega), Int.toNat_natCast, Int.toNat_natCast]
  exact h2 h0

end Go.Proofs.Ytdbpgcaodgkcjaa
