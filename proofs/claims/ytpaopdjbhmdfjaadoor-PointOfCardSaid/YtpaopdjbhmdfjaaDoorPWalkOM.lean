/- The walk of the law of a point's bytes, as the card asks it. -/
import Derived.Test.YtpaopdjbhmdfjaaDoorQOfWM
namespace Go.Proofs.YtpaopdjbhmdfjaaDoor
open Go Go.RowKit

theorem pointOf_any {a : List Int} (la : a.length = 32) (ba : Byt a) : CallsT 3 #[.agg (ints .u8 a).toArray] (.bool true) := by
  have hx := at31 la
  have hx0 := ba.at_ hx
  have ly := offB_len la
  have yys := offB_byt la ba
  by_cases hN : NT.PN ≤ bn (offB a)
  · have kof := of_bad la ba (.inl hN)
    by_cases ho : 128 ≤ a.getD 31 0
    · exact of_A_o la hx hx0 ho rfl rfl ly yys (decide_eq_true hN) kof
    · exact of_A_e la hx hx0 ho rfl rfl ly yys (decide_eq_true hN) kof
  · have hN' : bn (offB a) < NT.PN := by omega
    have hge := decide_eq_false hN
    have hbv := bn_small hN'
    have hxx := xx_eq (ph NT.PN (bn (offB a)))
    cases hq : isSq (xxF (ph NT.PN (bn (offB a)))).val with
    | false =>
      have kof := of_bad la ba (.inr (.inl hq))
      rw [← hxx] at hq
      by_cases ho : 128 ≤ a.getD 31 0
      · exact of_B_o la hx hx0 ho rfl rfl ly yys hge hbv hq kof
      · exact of_B_e la hx hx0 ho rfl rfl ly yys hge hbv hq kof
    | true =>
      by_cases hz : xxF (ph NT.PN (bn (offB a))) = 0
      · by_cases ho : 128 ≤ a.getD 31 0
        · have kof := of_bad la ba (.inr (.inr ⟨hz, ho⟩))
          rw [← hxx] at hq hz
          exact of_Z_o la hx hx0 ho rfl rfl ly yys hge hbv hq (decide_eq_true hz) kof
        · obtain ⟨r, P, kof, hr, hby⟩ := of_good la ba (fun h => by
            rcases h with h | h | ⟨_, h⟩
            · exact hN h
            · rw [hq] at h; cases h
            · exact ho h)
          rw [← hxx] at hq hz
          exact of_Z_e la hx hx0 ho rfl rfl ly yys hge hbv hq (decide_eq_true hz) kof hr hby
      · obtain ⟨r, P, kof, hr, hby⟩ := of_good la ba (fun h => by
          rcases h with h | h | ⟨h, _⟩
          · exact hN h
          · rw [hq] at h; cases h
          · exact hz h)
        rw [← hxx] at hq hz
        by_cases ho : 128 ≤ a.getD 31 0
        · exact of_N_o la hx hx0 ho rfl rfl ly yys hge hbv hq (decide_eq_false hz) kof hr hby
        · exact of_N_e la hx hx0 ho rfl rfl ly yys hge hbv hq (decide_eq_false hz) kof hr hby
theorem pointOf_walk (w : World) (ht : Tabs w) (a : List Int) (la : a.length = 32) (wa : ∀ x ∈ a, (Lit.int .u8 x).wf = true) :
    Calls Tryd.prog 3 #[.agg (ints .u8 a).toArray] w fun e w' => e = .returned (.bool true) ∧ Below w.heap.size w w' :=
  pointOf_any la (byt_of_wf wa) w ht
end Go.Proofs.YtpaopdjbhmdfjaaDoor
