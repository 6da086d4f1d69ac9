/- DiskKeeps, as the frame asks for it. -/
import Derived.Test.YtdfalneiapeegaaLLaid
import Derived.Test.YtdfalneiapeegaaLKeepsG
namespace Go.Proofs.Ytdfalneiapeegaa
open Go Go.RowKit
theorem keeps_any (n1 c1 : Nat) (A1 : Option Addr) (ds1 : List DoV) (n2 c2 : Nat) (A2 : Option Addr) (ds2 : List DoV) (n3 c3 : Nat) (A3 : Option Addr) (xs3 : List Int) (w : World) (hn1 : ds1.length = n1) (hm1 : n1 ≤ 9223372036854775807) (hA1 : DoRow w.heap.size w A1 ds1) (hn2 : ds2.length = n2) (hm2 : n2 ≤ 9223372036854775807) (hA2 : DoRow w.heap.size w A2 ds2) (hn3 : xs3.length = n3) (hm3 : n3 ≤ 9223372036854775807) (hA3 : NumsD w.heap.size w .u8 A3 xs3) (hx3 : Byts xs3) :
    Calls Try.prog 4 #[.slice A1 n1 c1, .slice A2 n2 c2, .slice A3 n3 c3] w fun e w' => e = .returned (.bool true) ∧ Below w.heap.size w w' := by
  obtain ⟨b1, hb1⟩ : ∃ b, b = decide ((∀ d ∈ ds1, d.x.length ≤ 100) ∧ n1 ≤ 40) := ⟨_, rfl⟩
  obtain ⟨b2, hb2⟩ : ∃ b, b = decide ((∀ d ∈ ds2, d.x.length ≤ 100) ∧ n2 ≤ 40) := ⟨_, rfl⟩
  by_cases h : b1 = false ∨ b2 = false ∨ 100 < n3
  · exact keeps_few b1 b2 n1 c1 A1 ds1 n2 c2 A2 ds2 n3 c3 A3 xs3 w hn1 hm1 hA1 hn2 hm2 hA2 hn3 hm3 (hid hb1) (hid hb2) h
  · obtain rfl : b1 = true := by cases b1; exact absurd (.inl rfl) h; rfl
    obtain rfl : b2 = true := by cases b2; exact absurd (.inr (.inl rfl)) h; rfl
    exact keeps_go n1 c1 A1 ds1 n2 c2 A2 ds2 n3 c3 A3 xs3 w hn1 hm1 hA1 hn2 hm2 hA2 hn3 hm3 hA3 hx3 (Nat.le_of_not_lt fun e => h (.inr (.inr e))) (hid hb1) (hid hb2)
theorem keeps_walk (w : World) (A1 : Option Addr) (c1 : Nat) (ds1 : List DoV) (hl1 : ds1.length ≤ 9223372036854775807) (hA1 : DoRow w.heap.size w A1 ds1) (A2 : Option Addr) (c2 : Nat) (ds2 : List DoV) (hl2 : ds2.length ≤ 9223372036854775807) (hA2 : DoRow w.heap.size w A2 ds2) (A : Option Addr) (c : Nat) (xs : List Int) (hc : xs.length ≤ c) (hcap : c ≤ maxLen) (hx : ∀ x ∈ xs, (Lit.int .u8 x).wf = true) (hA : Nums w .u8 A xs) :
    Calls Try.prog 4 #[.slice A1 ds1.length c1, .slice A2 ds2.length c2, .slice A xs.length c] w fun e w' => e = .returned (.bool true) ∧ Below w.heap.size w w' := by
  refine keeps_any ds1.length c1 A1 ds1 ds2.length c2 A2 ds2 xs.length c A xs w rfl hl1 hA1 rfl hl2 hA2 rfl (by unfold maxLen at hcap; omega) (fun hp => ?_) (fun b hb => ?_)
  · obtain ⟨b, off, e, hlt, hcell⟩ := hA hp
    exact ⟨b, off, e, hlt, hcell⟩
  · have h := hx b hb
    simp [Lit.wf, IntKind.min, IntKind.max, IntKind.bits, IntKind.signed] at h
    exact ⟨by omega, by omega⟩
end Go.Proofs.Ytdfalneiapeegaa
