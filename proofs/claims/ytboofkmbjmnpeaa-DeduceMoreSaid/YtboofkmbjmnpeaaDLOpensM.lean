/- The law of what opens a term. -/
import Derived.Test.YtboofkmbjmnpeaaG20
namespace Go.Proofs.Ytboofkmbjmnpeaa
open Go Go.RowKit Go.Maps

theorem few_split (ds : List DoV) (n : Nat) : ∃ fb : Bool, Hid (fb = decide ((∀ d ∈ ds, d.x.length ≤ 100) ∧ n ≤ 30)) := ⟨_, rfl⟩
/-- What opens a term makes its content known. -/
theorem opens_known {L : List T3} {k : Nat} {t : T3} {key : Int} {w : World} {pk : Nat} {A : Option Addr} {c : Nat} {F : List Fa} (hW : WF L) (ht : L[k]? = some t) (h45 : t.1 = 4 ∨ t.1 = 5) (hkey : key = keyOf3 L t) (hK : KR L (Gv [(k : Int), key]) w pk A c F) : 0 ≤ t.2.2 ∧ kF F t.2.2.toNat = true := by
  have h2 := (wf_refs hW ht).2 (by rcases h45 with h | h <;> simp [isTwo, h])
  refine ⟨h2.2.2.1, ?_⟩
  have hk := hK.least.1.giv k (by simp [Gv])
  have hq := hK.least.1.giv key.toNat (by simp only [Gv, List.mem_cons, List.mem_nil_iff, or_false]; omega)
  refine hK.least.1.sh k t ht hk ?_
  rw [← hkey]
  have := hK.least.1.kc _ hq
  rcases h45 with h | h <;> simp [shB, h, this]
set_option maxRecDepth 50000 in
set_option maxHeartbeats 4000000 in
theorem lopens_any (n c : Nat) (A : Option Addr) (ds : List DoV) (m : Int) (w : World) (hn : ds.length = n) (hn47 : n ≤ 9223372036854775807) (hA : DoRow w.heap.size w A ds) :
    Calls Try.prog 5 #[.slice A n c, .int .i64 m] w fun e w' => e = .returned (.bool true) ∧ Below w.heap.size w w' := by
  obtain ⟨fb, HF⟩ := few_split ds n
  cases fb with
  | false =>
    go_enter Try.func5, Try.ntmps5
    go_wp2_with (first
      | (go_at_call 6; refine (dawake_any _).mono ?_; rintro e w2 ⟨rfl, hb2⟩)
      | (go_at_call 8; refine (few_any w.heap.size n c A ds false _ hn hn47 (hA.next hb2) hb2.size HF).mono ?_; rintro e w3 ⟨rfl, hb3⟩))
    go_ret
    exact ⟨rfl, hb2.trans (Below.mono hb3 hb2.size)⟩
  | true =>
    obtain ⟨hx100, hn30⟩ := of_decide_eq_true HF.out.symm
    go_enter Try.func5, Try.ntmps5
    go_upto_region 5 with (first
      | (go_at_call 6; refine (dawake_any _).mono ?_; rintro e w2 ⟨rfl, hb2⟩)
      | (go_at_call 8; refine (few_any w.heap.size n c A ds true _ hn hn47 (hA.next hb2) hb2.size HF).mono ?_; rintro e w3 ⟨rfl, hb3⟩))
    have hb03 := hb2.trans (Below.mono hb3 hb2.size)
    have hA3 : DoRow w3.heap.size w3 A ds := fun i d hi => by
      obtain ⟨⟨g, o, e, hg, hr⟩, h1, h2, h3, h4⟩ := (hA.next hb03) i d hi
      exact ⟨⟨g, o, e, Nat.lt_of_lt_of_le hg hb03.size, hr⟩, h1, h2, h3, (h4.nums hb03.size).under⟩
    have HM := hid (made_any n c A ds w3 hn hn30 hA3 hx100)
    clear hA hA3 hx100 hn hn47 HF hb2 hb3
    go_upto_region 6 with (go_at_call 9; refine HM.out.mono ?_; rintro e w4 ⟨p, AL, cL, L, X, Fc, rfl, hC, hF, hW, hL30, hAL, hb4⟩)
    have hb04 := hb03.trans (Below.mono hb4 hb03.size)
    clear HM hb03 hb4 hF
    by_cases hm : 0 ≤ m ∧ m < L.length
    · obtain ⟨m0, m1⟩ := hm
      obtain ⟨k, rfl⟩ : ∃ k : Nat, m = k := ⟨m.toNat, by omega⟩
      have hk : k < L.length := by omega
      obtain ⟨t, ht⟩ : ∃ t, L[k]? = some t := ⟨L[k], by simp [hk]⟩
      have HO := hid (opens_key Fc p L X k t w4 hC hW ht)
      have hge : decide ((L.length : Int) ≤ (k : Int)) = false := decide_eq_false (by omega)
      obtain ⟨kk, a, b⟩ := t
      obtain ⟨g, rfl, hg, hcell⟩ := hAL (by omega)
      obtain ⟨x0, x1, x2⟩ := hcell k _ ht
      dsimp only at x0 x1 x2
      by_cases h45 : kk = 4 ∨ kk = 5
      · have hwr := (wf_refs hW ht).2 (by rcases h45 with h | h <;> simp [isTwo, h])
        dsimp only at hwr
        obtain ⟨key, hkey⟩ : ∃ key, keyOf3 L (kk, a, b) = key := ⟨_, rfl⟩
        rw [hkey] at hwr
        have HO2 : Hid (Calls Try.prog 20 #[.pointer (some ⟨p, 0, none⟩), .int .i64 k] w4 fun e w' => e = .returned (.tuple #[.int .i64 key, .int .i64 b, .bool true]) ∧ Below w4.heap.size w4 w') := hid (HO.out.mono (by
          rintro e w' ⟨⟨y, z, rfl, h1, _⟩, hb⟩
          obtain ⟨rfl, rfl⟩ := h1 h45
          rw [hkey]
          exact ⟨rfl, hb⟩))
        -- where the second look leads
        have hwant : kk = 4 → ∃ na : Nat, a = na ∧ w4.cell? ⟨g, na * 3 + 1, none⟩ = some (.int .i64 key) := fun h4 => by
          subst h4
          obtain ⟨na, rfl⟩ : ∃ na : Nat, a = na := ⟨a.toNat, by omega⟩
          have ha : na < L.length := by omega
          have hu : L[na]? = some L[na] := by simp [ha]
          refine ⟨na, rfl, ?_⟩
          rw [(hcell na _ hu).2.1, ← hkey]
          simp [keyOf3, ha]
        have hwant5 : kk = 5 → a = key := fun h5 => by rw [← hkey, h5]; simp [keyOf3]
        have al : a < L.length := by omega
        have a0 : 0 ≤ a := hwr.1
        have HH : Hid (∀ w6, Below w4.heap.size w4 w6 → Nums w6 .i64 (some ⟨w6.heap.size - 1, 0, none⟩) [(k : Int), key] → Calls Try.prog 7 #[.pointer (some ⟨p, 0, none⟩), .slice (some ⟨w6.heap.size - 1, 0, none⟩) 2 2] w6 fun e w7 => Below w6.heap.size w6 w7 ∧ ∃ pk, e = .returned (.tuple #[.pointer (some ⟨pk, 0, none⟩), .int .i64 0]) ∧ Calls Try.prog 14 #[.pointer (some ⟨pk, 0, none⟩), .int .i64 b] w7 fun e w8 => e = .returned (.bool true) ∧ w7 = w8) := hid fun w6 hb hN => by
          have hr : ∀ x ∈ [(k : Int), key], 0 ≤ x ∧ x < L.length := by
            simp only [List.mem_cons, List.mem_nil_iff, or_false]
            rintro x (rfl | rfl) <;> omega
          refine (from_any Fc p L X _ 2 2 [(k : Int), key] w6 hW (hC.next hb) rfl hN hL30 (by simp)).mono ?_
          intro e w7 hq
          obtain ⟨pk, A', c', F, rfl, hK, _, hb7⟩ := fromQ_yes hr hq
          obtain ⟨b0, hk1⟩ := opens_known hW ht h45 hkey.symm hK
          exact ⟨hb7, pk, rfl, khas_any pk c' A' F b true w7 hK.ks (hid (by rw [decide_eq_true b0, hk1]; rfl))⟩
        clear hC hW hL30 HO hwr hcell ht hkey
        go_upto_region 7 with (go_at_call 20; refine HO2.out.mono ?_; rintro e w5 ⟨rfl, hb5⟩)
        have hb05 := hb04.trans (Below.mono hb5 hb04.size)
        have y0 : w5.cell? ⟨g, k * 3, none⟩ = some (.int .i64 kk) := cellB x0 hb5
        have y1 : w5.cell? ⟨g, k * 3 + 1, none⟩ = some (.int .i64 a) := cellB x1 hb5
        have y2 : w5.cell? ⟨g, k * 3 + 2, none⟩ = some (.int .i64 b) := cellB x2 hb5
        obtain ⟨w6, hw6⟩ : ∃ W, w5.alloc (.cells #[.int .i64 (k : Int), .int .i64 key] 3) = W := ⟨_, rfl⟩
        have hz6 : w6.heap.size - 1 = w5.heap.size := by rw [← hw6]; simp
        have hb56 : Below w5.heap.size w5 w6 := by rw [← hw6]; exact below_new w5 _
        have hN6 : Nums w6 .i64 (some ⟨w6.heap.size - 1, 0, none⟩) [(k : Int), key] := by rw [hz6, ← hw6]; exact nums_two w5 .i64 k key 3
        have HF := hid (HH.out w6 (hb5.trans (Below.mono hb56 hb5.size)) hN6)
        rw [hz6] at HF
        have z2 := cellB y2 hb56
        have hb06 := hb05.trans (Below.mono hb56 hb05.size)
        have HW6 := hid hw6
        clear hw6 hz6 hN6 HH HO2 x0 x1 x2
        rcases h45 with rfl | rfl
        · obtain ⟨na, rfl, xa⟩ := hwant rfl
          have ya := cellB xa hb5
          have hal : (na : Int) < L.length := al
          clear hwant hwant5 xa hb5 hb56
          go_upto_region 13 with (go_at_call 7; rw [HW6.out]; refine HF.out.mono ?_; rintro e w7 ⟨hb7, pk, rfl, hH⟩; have v2 := cellB z2 hb7)
          have HH2 := hid hH
          clear hH HF
          go_wp2_with (go_at_call 14; refine HH2.out.mono ?_; rintro e w8 ⟨rfl, rfl⟩)
          go_ret
          exact ⟨rfl, hb06.trans (Below.mono hb7 hb06.size)⟩
        · obtain rfl := hwant5 rfl
          clear hwant hwant5 hb5 hb56
          go_upto_region 13 with (go_at_call 7; rw [HW6.out]; refine HF.out.mono ?_; rintro e w7 ⟨hb7, pk, rfl, hH⟩; have v2 := cellB z2 hb7)
          have HH2 := hid hH
          clear hH HF
          go_wp2_with (go_at_call 14; refine HH2.out.mono ?_; rintro e w8 ⟨rfl, rfl⟩)
          go_ret
          exact ⟨rfl, hb06.trans (Below.mono hb7 hb06.size)⟩
      · have HO2 : Hid (Calls Try.prog 20 #[.pointer (some ⟨p, 0, none⟩), .int .i64 k] w4 fun e w' => e = .returned (.tuple #[.int .i64 0, .int .i64 0, .bool false]) ∧ Below w4.heap.size w4 w') := hid (HO.out.mono (by
          rintro e w' ⟨⟨y, z, rfl, _, h2⟩, hb⟩
          obtain ⟨rfl, rfl⟩ := h2 h45
          have : keyOf3 L (kk, a, b) = 0 := by
            unfold keyOf3
            rw [if_neg (fun e => h45 (.inl e)), if_neg (fun e => h45 (.inr e))]
          rw [this]
          exact ⟨rfl, hb⟩))
        have e4 : (kk == 4) = false := beq_false_of_ne (fun e => h45 (.inl e))
        have e5 : (kk == 5) = false := beq_false_of_ne (fun e => h45 (.inr e))
        have n4 : (kk != 4) = true := by simp [bne, e4]
        have n5 : (kk != 5) = true := by simp [bne, e5]
        clear hC hW hL30 HO hcell ht h45
        go_upto_region 7 with (go_at_call 20; refine HO2.out.mono ?_; rintro e w5 ⟨rfl, hb5⟩)
        have hb05 := hb04.trans (Below.mono hb5 hb04.size)
        have y0 : w5.cell? ⟨g, k * 3, none⟩ = some (.int .i64 kk) := cellB x0 hb5
        clear HO2 x0 x1 x2
        go_wp2
        go_ret
        exact ⟨rfl, hb05⟩
    · have HO := hid (opens_none Fc p L X m w4 hC hm)
      clear hC hW hL30
      go_upto_region 7 with (go_at_call 20; refine HO.out.mono ?_; rintro e w5 ⟨rfl, hb5⟩)
      have hb05 := hb04.trans (Below.mono hb5 hb04.size)
      clear HO hAL
      by_cases h0 : m < 0
      · go_wp2
        go_ret
        exact ⟨rfl, hb05⟩
      · have h1 : (L.length : Int) ≤ m := by omega
        have h2 : 0 ≤ m := by omega
        have h3 : decide ((L.length : Int) ≤ m) = true := decide_eq_true h1
        go_wp2
        go_ret
        exact ⟨rfl, hb05⟩
end Go.Proofs.Ytboofkmbjmnpeaa
