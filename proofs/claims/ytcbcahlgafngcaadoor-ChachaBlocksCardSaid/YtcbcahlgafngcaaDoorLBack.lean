/- What is hidden, and hidden again, is what it was; a part of it is hidden alike. -/
import Derived.Test.YtcbcahlgafngcaaDoorLCase
import Derived.Deep.Cut
namespace Go.Proofs.YtcbcahlgafngcaaDoor
open Go Go.RowKit

theorem same_eq2 (A B : Option Addr) (c d m : Nat) (xs ys : List Int) (w : World) (he : xs = ys) (hx : xs.length = m) (hm : m ≤ maxLen) (hA : Nums w .u8 A xs) (hB : Nums w .u8 B ys) :
    Calls Tryd.prog 11 #[.slice A m c, .slice B m d] w fun e w' => e = .returned (.bool true) ∧ Below w.heap.size w w' := by
  subst he
  subst hx
  exact same_eq A B c d xs xs w rfl hm hA hB
theorem nums_take {w : World} {A : Option Addr} {xs : List Int} (h : Nums w .u8 A xs) (k : Nat) : Nums w .u8 A (xs.take k) := fun hp => by
  rw [List.length_take] at hp
  obtain ⟨b, o, e, hl, hc⟩ := h (by omega)
  refine ⟨b, o, e, hl, fun i hi => ?_⟩
  rw [List.length_take] at hi
  rw [hc i (by omega), List.getD_eq_getElem?_getD, List.getD_eq_getElem?_getD, List.getElem?_take, if_pos (by omega)]
def IsTup (kn : Nat) (zl : List Int) : Value → World → Prop := fun v ww => ∃ A d, v = .tuple #[.slice A kn d, .int .i64 0] ∧ Nums ww .u8 A zl
def IsSl (kn : Nat) (zl : List Int) : Value → World → Prop := fun v ww => ∃ A d, v = .slice A kn d ∧ Nums ww .u8 A zl
theorem IsTup.grows (kn : Nat) (zl : List Int) : Grows (IsTup kn zl) := fun v w w' ⟨A, d, h, hN⟩ hb => ⟨A, d, h, hN.below hb⟩
theorem IsSl.grows (kn : Nat) (zl : List Int) : Grows (IsSl kn zl) := fun v w w' ⟨A, d, h, hN⟩ hb => ⟨A, d, h, hN.below hb⟩
theorem cf13 : ∀ vs w, (callFunc 13 vs).run Tryd.prog w = .ok (.enter 13 vs) w := enters_of Tryd.func13 (by kernel_rfl) rfl
theorem cf11 : ∀ vs w, (callFunc 11 vs).run Tryd.prog w = .ok (.enter 11 vs) w := enters_of Tryd.func11 (by kernel_rfl) rfl
section
variable {ops : Array Oper} {md : Region.Mode} {W : World} {a0 : Act} {n : Nat} {S : Nat → Value → World → Prop} {i : Nat}
theorem four_args {x y z u : Operand} {v1 v2 v3 v4 : Value} (h1 : Knows ops md W a0 n S i x v1) (h2 : Knows ops md W a0 n S i y v2) (h3 : Knows ops md W a0 n S i z v3) (h4 : Knows ops md W a0 n S i u v4) : ∀ (a : Act) (w : World), Cl W w → Fr ops n a0 a → Dp ops md n S i a w → #[x, y, z, u].map a.eval = #[v1, v2, v3, v4] := fun a w hw hf hd => by
  have e : #[x, y, z, u].map a.eval = #[a.eval x, a.eval y, a.eval z, a.eval u] := by simp
  rw [e, h1 a w hw hf hd, h2 a w hw hf hd, h3 a w hw hf hd, h4 a w hw hf hd]
end
set_option maxRecDepth 8000 in
set_option maxHeartbeats 1000000 in
theorem back_any (w : World) (hT : Tabs w) (key nonce : List Int) (c : Int) (hk : key.length = 32) (hn : nonce.length = 12) (hkx : ∀ x ∈ key, (Lit.int .u8 x).wf = true) (hnx : ∀ x ∈ nonce, (Lit.int .u8 x).wf = true) (hcw : (Lit.int .u32 c).wf = true)
    (A : Option Addr) (cap : Nat) (b : List Int) (hbc : b.length ≤ cap) (hcm : cap ≤ maxLen) (hbx : ∀ x ∈ b, (Lit.int .u8 x).wf = true) (hA : Nums w .u8 A b) (n : Int) (hnw : (Lit.int .u16 n).wf = true) :
    Calls Tryd.prog 5 #[.agg (caseL key nonce c).toArray, .slice A b.length cap, .int .u16 n] w fun e w' => e = .returned (.bool true) ∧ Below w.heap.size w w' := by
  obtain ⟨c, rfl, hc⟩ := word_of_wf hcw
  obtain ⟨hn0, hn1⟩ : 0 ≤ n ∧ n < 65536 := by
    have e1 : IntKind.u16.min = 0 := by decide
    have e2 : IntKind.u16.max = 65535 := by decide
    simp [Lit.wf, e1, e2] at hnw
    omega
  have hkb := byt_of_wf hkx
  have hnb := byt_of_wf hnx
  have hbb := byt_of_wf hbx
  have HK := hid hk
  have HN := hid hn
  have hca := CaseAt.new w key nonce c hk hn
  obtain ⟨vs, hvs⟩ : ∃ v, (caseL key nonce c).toArray = v := ⟨_, rfl⟩
  rw [hvs] at hca ⊢
  have hB1 : Below w.heap.size w (w.alloc (.cells vs 26)) := (Below.refl _ w).alloc (Nat.le_refl _) _
  have hz1 : (w.alloc (.cells vs 26)).heap.size = w.heap.size + 1 := by simp
  obtain ⟨lb, hlb⟩ : ∃ n, b.length = n := ⟨_, rfl⟩
  have HL := hid hlb
  rw [hlb] at hbc ⊢
  clear hlb hvs hkx hnx hbx hcw hk hn hnw
  have hlm : (lb : Int) ≤ 9223372036854775807 := by unfold maxLen at hcm; omega
  have hl0 : (0 : Int) ≤ lb := by omega
  obtain ⟨W1, hW1⟩ : ∃ W, w.alloc (.cells vs 26) = W := ⟨_, rfl⟩
  have HW1 := hid hW1
  rw [hW1] at hca hB1 hz1
  have HZ1 := hid hz1
  clear hW1 hz1
  have hz0 : w.heap.size ≤ W1.heap.size := by rw [HZ1.out]; omega
  have hT1 : Tabs W1 := hT.next hB1
  go_enter Tryd.func5, Tryd.ntmps5
  by_cases h5 : lb ≤ 500
  · have h5a : (lb : Int) ≤ 500 := by omega
    have e0 : decide ((500 : Int) < lb) = false := decide_eq_false (by omega)
    obtain ⟨L, hL⟩ : ∃ L, 4294967296 - c = L := ⟨_, rfl⟩
    have HLL := hid hL
    clear hL
    have i22 : (Tryd.prog.info? 22).map (·.size) = some (ints .u8 key).length := by rw [ints_length, HK.out]; exact info22
    have i23 : (Tryd.prog.info? 23).map (·.size) = some (ints .u8 nonce).length := by rw [ints_length, HN.out]; exact info23
    have hc0 : (0 : Int) ≤ c := by omega
    have hc1 : (c : Int) < 4294967296 := by omega
    have hA1 := hA.below hB1
    have H5 := hid h5
    have H5a := hid h5a
    have HLM := hid hlm
    clear h5 h5a
    by_cases hg : lb ≤ 64 * L
    · obtain ⟨st, hst⟩ : ∃ s, strm key nonce c (4294967296 - c) = s := ⟨_, rfl⟩
      have hsl : st.length = 64 * L := by rw [← hst, strm_length HK.out HN.out, HLL.out]
      have hsb : HByt st := by rw [← hst]; exact strm_byt _ _ _ _
      have hgood : ∀ (x : List Int) (m cp : Nat) (A : Option Addr) (w : World), Tabs w → HByt x → x.length = m → m ≤ lb → Nums w .u8 A x →
          Calls Tryd.prog 13 #[.agg (ints .u8 key).toArray, .agg (ints .u8 nonce).toArray, .int .u32 (c : Int), .slice A m cp] w fun e w' => ∃ A d, e = .returned (.tuple #[.slice A m d, .int .i64 0]) ∧ NumsF w.heap.size w' .u8 A (hideL x st) ∧ Below w.heap.size w w' ∧ m ≤ d := fun x m cp A w hT hx hl hm hA => by
        rw [← hst]
        exact hide_good key nonce x c m cp A w hT HK HN hkb hnb hx (hid hl) (Nat.le_trans hm H5.out) hc (by rw [HLL.out]; omega) hA
      obtain ⟨xl, hxl⟩ : ∃ x, hideL b st = x := ⟨_, rfl⟩
      have HXL := hid hxl
      have hxlen : Hid (xl.length = lb) := hid (by rw [← hxl, hideL_length (by rw [hsl, HL.out]; exact hg), HL.out])
      have hxb : HByt xl := by rw [← hxl]; exact hideL_byt hbb hsb
      have hback : Hid (hideL xl st = b) := hid (by rw [← hxl]; exact hideL_twice hbb hsb (by rw [hsl, HL.out]; exact hg))
      obtain ⟨kn, hkn⟩ : ∃ k : Nat, n % ((lb : Int) + 1) = k := ⟨(n % ((lb : Int) + 1)).toNat, by have := Int.emod_nonneg n (show (lb : Int) + 1 ≠ 0 by omega); omega⟩
      have hkl : kn ≤ lb := by have := Int.emod_lt_of_pos n (show (0 : Int) < (lb : Int) + 1 by omega); omega
      have HKL := hid hkl
      have HBC := hid hbc
      have e9 : lb ≤ maxLen := by unfold maxLen; have := H5.out; omega
      have E9 := hid e9
      have HSL := hid hsl
      have HG := hid hg
      have HKN := hid hkn
      clear hlm hl0 hg hst hsl e9 hkl hbc hxl hkn
      go_upto_region 6 with (first
        | (go_at_call 6; rw [HW1.out]; refine (awake_any _ hT1).mono ?_; rintro e w2 ⟨rfl, hb2⟩
           have hc2 := hca.below hb2
           have r2 := hc2.k.range
           have s2 := hc2.n.range
           have c2 := hc2.c)
        | (with_reducible refine wpList_load_mid (op := ⟨some 21, .load 22 (.tmp 20), _, _, _, _⟩) rfl 22 (.tmp 20) rfl w.heap.size 0 rfl (ints .u8 key) _ r2 Tryd.underlying22 rfl i22 ?_)
        | (with_reducible refine wpList_load_mid (op := ⟨some 23, .load 23 (.tmp 22), _, _, _, _⟩) rfl 23 (.tmp 22) rfl w.heap.size 32 rfl (ints .u8 nonce) _ s2 Tryd.underlying23 rfl i23 ?_)
        | (go_at_call 13; refine (hgood b lb cap A w2 (hT1.next hb2) hbb HL.out (Nat.le_refl _) (hA1.below hb2)).mono ?_; rintro e w3 ⟨AX, dX, rfl, hNX, hb3, hdX⟩
           rw [HXL.out] at hNX
           have hc3 := hc2.below hb3
           clear r2 s2 c2
           have r3 := hc3.k.range
           have s3 := hc3.n.range
           have c3 := hc3.c))
      go_upto_region 9 with (first
        | (with_reducible refine wpList_load_mid (op := ⟨some 37, .load 22 (.tmp 36), _, _, _, _⟩) rfl 22 (.tmp 36) rfl w.heap.size 0 rfl (ints .u8 key) _ r3 Tryd.underlying22 rfl i22 ?_)
        | (with_reducible refine wpList_load_mid (op := ⟨some 39, .load 23 (.tmp 38), _, _, _, _⟩) rfl 23 (.tmp 38) rfl w.heap.size 32 rfl (ints .u8 nonce) _ s3 Tryd.underlying23 rfl i23 ?_)
        | (go_at_call 13; refine (hgood xl lb dX AX w3 ((hT1.next hb2).next hb3) hxb hxlen.out (Nat.le_refl _) hNX.nums).mono ?_; rintro e wb ⟨AY, dY, rfl, hNY, hb4, _⟩
           rw [hback.out] at hNY
           clear r3 s3 c3))
      have hl0 : (0 : Int) ≤ lb := by omega
      have h5b := H5a.out
      have hkn := HKN.out
      have hne : (lb : Int) + 1 ≠ 0 := by omega
      have hn3 : 0 ≤ n := hn0
      go_upto_region 10 with (fail)
      rw [hkn]
      clear hkn hne h5b hl0 e0
      have hbt : HByt (b.take kn) := hbb.take kn
      have hlt : (b.take kn).length = kn := by rw [List.length_take, HL.out]; have := HKL.out; omega
      have HZ := hid (show hideL (b.take kn) st = xl.take kn by rw [hideL_take, HXL.out])
      have hc4 := hc3.below hb4
      have hT4 := ((hT1.next hb2).next hb3).next hb4
      have hA4 := ((hA1.below hb2).below hb3).below hb4
      have hX4 := hNX.nums.below hb4
      have q54 : ∀ ww, Cl wb ww → ww.rangeAt w.heap.size 0 (ints .u8 key) := fun ww h => (hc4.below h).k.range
      have q56 : ∀ ww, Cl wb ww → ww.rangeAt w.heap.size 32 (ints .u8 nonce) := fun ww h => (hc4.below h).n.range
      have q58 : ∀ ww, Cl wb ww → ww.cell? ⟨w.heap.size, 44, none⟩ = some (.int .u32 (c : Int)) := fun ww h => (hc4.below h).c
      have hk0 : (0 : Int) ≤ kn := by omega
      have hkc : (kn : Int) ≤ cap := by have := HKL.out; have := HBC.out; omega
      have hkx : kn ≤ cap := by omega
      have htn : (kn : Int).toNat = kn := by omega
      refine region_spec2 14 90 (fun _ => false) [Is (.pointer (some ⟨w.heap.size, 0, none⟩)), Is (.agg (ints .u8 key).toArray), Is (.pointer (some ⟨w.heap.size, 32, none⟩)), Is (.agg (ints .u8 nonce).toArray), Is (.pointer (some ⟨w.heap.size, 44, none⟩)), Is (.int .u32 (c : Int)), Is (.slice A lb cap), Is (.int .i64 (kn : Int)), Is (.slice A kn cap), IsTup kn (xl.take kn), IsTup kn (xl.take kn), IsSl kn (xl.take kn), Is (.int .i64 0), IsSl kn (xl.take kn)] [53, 54, 55, 56, 57, 58, 59, 60, 61, 62, 52, 63, 64, 12] (by kernel_rfl) (by kernel_rfl) (by kernel_rfl) (Nat.le_of_eq rfl) (grows_cons (Is.grows _) (grows_cons (Is.grows _) (grows_cons (Is.grows _) (grows_cons (Is.grows _) (grows_cons (Is.grows _) (grows_cons (Is.grows _) (grows_cons (Is.grows _) (grows_cons (Is.grows _) (grows_cons (Is.grows _) (grows_cons (IsTup.grows _ _) (grows_cons (IsTup.grows _ _) (grows_cons (IsSl.grows _ _) (grows_cons (Is.grows _) (grows_cons (IsSl.grows _ _) grows_nil))))))))))))))
        ⟨(step_ex (.pointer (some ⟨w.heap.size, 0, none⟩)) rfl (.inl rfl) rfl fun a ww hw hf hd => by
             have h3 : a.eval (.tmp 3) = (.pointer (some ⟨w.heap.size, 0, none⟩)) := ((knows_out (v := (.pointer (some ⟨w.heap.size, 0, none⟩))) 3 (by kernel_rfl) rfl) : Knows _ _ wb _ 14 _ 0 _ _) a ww hw hf hd
             revert h3
             generalize a.eval = ev
             intro h3
             unfold execOp
             simp only [h3]
             go_simp),
         (step_ex (.agg (ints .u8 key).toArray) rfl (.inl rfl) rfl fun a ww hw hf hd => ex_load 22 (.tmp 53) rfl w.heap.size 0 (((knows_in (v := (.pointer (some ⟨w.heap.size, 0, none⟩))) 0 53 (by decide) (by kernel_rfl) rfl rfl) : Knows _ _ wb _ 14 _ 1 _ _) a ww hw hf hd) (ints .u8 key) _ (q54 ww hw) Tryd.underlying22 rfl i22),
         (step_ex (.pointer (some ⟨w.heap.size, 32, none⟩)) rfl (.inl rfl) rfl fun a ww hw hf hd => by
             have h3 : a.eval (.tmp 3) = (.pointer (some ⟨w.heap.size, 0, none⟩)) := ((knows_out (v := (.pointer (some ⟨w.heap.size, 0, none⟩))) 3 (by kernel_rfl) rfl) : Knows _ _ wb _ 14 _ 2 _ _) a ww hw hf hd
             revert h3
             generalize a.eval = ev
             intro h3
             unfold execOp
             simp only [h3]
             go_simp),
         (step_ex (.agg (ints .u8 nonce).toArray) rfl (.inl rfl) rfl fun a ww hw hf hd => ex_load 23 (.tmp 55) rfl w.heap.size 32 (((knows_in (v := (.pointer (some ⟨w.heap.size, 32, none⟩))) 2 55 (by decide) (by kernel_rfl) rfl rfl) : Knows _ _ wb _ 14 _ 3 _ _) a ww hw hf hd) (ints .u8 nonce) _ (q56 ww hw) Tryd.underlying23 rfl i23),
         (step_ex (.pointer (some ⟨w.heap.size, 44, none⟩)) rfl (.inl rfl) rfl fun a ww hw hf hd => by
             have h3 : a.eval (.tmp 3) = (.pointer (some ⟨w.heap.size, 0, none⟩)) := ((knows_out (v := (.pointer (some ⟨w.heap.size, 0, none⟩))) 3 (by kernel_rfl) rfl) : Knows _ _ wb _ 14 _ 4 _ _) a ww hw hf hd
             revert h3
             generalize a.eval = ev
             intro h3
             unfold execOp
             simp only [h3]
             go_simp),
         (step_ex (.int .u32 (c : Int)) rfl (.inl rfl) rfl fun a ww hw hf hd => by
             have h57 : a.eval (.tmp 57) = (.pointer (some ⟨w.heap.size, 44, none⟩)) := ((knows_in (v := (.pointer (some ⟨w.heap.size, 44, none⟩))) 4 57 (by decide) (by kernel_rfl) rfl rfl) : Knows _ _ wb _ 14 _ 5 _ _) a ww hw hf hd
             have hcc := q58 ww hw
             revert h57
             generalize a.eval = ev
             intro h57
             unfold execOp
             simp only [h57]
             go_simp),
         (step_ex (.slice A lb cap) rfl (.inl rfl) rfl fun a ww hw hf hd => by
             have h1 : a.eval (.tmp 1) = (.slice A lb cap) := ((knows_out (v := (.slice A lb cap)) 1 (by kernel_rfl) rfl) : Knows _ _ wb _ 14 _ 6 _ _) a ww hw hf hd
             revert h1
             generalize a.eval = ev
             intro h1
             unfold execOp
             simp only [h1]
             go_simp),
         (step_ex (.int .i64 (kn : Int)) rfl (.inl rfl) rfl fun a ww hw hf hd => by
             have h11 : a.eval (.tmp 11) = (.int .i64 (kn : Int)) := ((knows_out (v := (.int .i64 (kn : Int))) 11 (by kernel_rfl) rfl) : Knows _ _ wb _ 14 _ 7 _ _) a ww hw hf hd
             revert h11
             generalize a.eval = ev
             intro h11
             unfold execOp
             simp only [h11]
             go_simp),
         (step_ex (.slice A kn cap) rfl (.inl rfl) rfl fun a ww hw hf hd => by
             have h59 : a.eval (.tmp 59) = (.slice A lb cap) := ((knows_in (v := (.slice A lb cap)) 6 59 (by decide) (by kernel_rfl) rfl rfl) : Knows _ _ wb _ 14 _ 8 _ _) a ww hw hf hd
             have h60 : a.eval (.tmp 60) = (.int .i64 (kn : Int)) := ((knows_in (v := (.int .i64 (kn : Int))) 7 60 (by decide) (by kernel_rfl) rfl rfl) : Knows _ _ wb _ 14 _ 8 _ _) a ww hw hf hd
             revert h59 h60
             generalize a.eval = ev
             intro h59 h60
             unfold execOp
             simp only [h59, h60]
             go_simp),
         (step_call rfl (.inl rfl) fun a ww hw hf hd => ⟨13, #[.agg (ints .u8 key).toArray, .agg (ints .u8 nonce).toArray, .int .u32 (c : Int), .slice A kn cap], ex_fn rfl cf13 rfl _ (four_args (knows_in (v := (.agg (ints .u8 key).toArray)) 1 54 (by decide) (by kernel_rfl) rfl rfl) (knows_in (v := (.agg (ints .u8 nonce).toArray)) 3 56 (by decide) (by kernel_rfl) rfl rfl) (knows_in (v := (.int .u32 (c : Int))) 5 58 (by decide) (by kernel_rfl) rfl rfl) (knows_in (v := (.slice A kn cap)) 8 61 (by decide) (by kernel_rfl) rfl rfl) a ww hw hf hd) ww, (hgood (b.take kn) kn cap A ww (hT4.next hw) hbt hlt HKL.out (nums_take (hA4.below hw) kn)).mono fun _ _ ⟨Az, dz, he, hN, hb, _⟩ => ⟨_, he, ⟨Az, dz, rfl, by rw [← HZ.out]; exact hN.nums⟩, hb⟩⟩),
         (step_run rfl (.inl rfl) fun a ww hw hf hd => ⟨_, ex_copy (.inl rfl) ww, hd 9 62 (by decide) (by kernel_rfl) rfl⟩),
         (step_run rfl (.inl rfl) fun a ww hw hf hd => by
             obtain ⟨Az, dz, he, hN⟩ : IsTup kn (xl.take kn) (a.eval (.tmp 52)) ww := hd 10 52 (by decide) (by kernel_rfl) rfl
             refine ⟨.slice Az kn dz, ?_, ⟨Az, dz, rfl, hN⟩⟩
             revert he
             generalize a.eval = ev
             intro he
             unfold execOp
             simp only [he]
             go_simp),
         (step_run rfl (.inl rfl) fun a ww hw hf hd => by
             obtain ⟨Az, dz, he, hN⟩ : IsTup kn (xl.take kn) (a.eval (.tmp 52)) ww := hd 10 52 (by decide) (by kernel_rfl) rfl
             refine ⟨.int .i64 0, ?_, rfl⟩
             revert he
             generalize a.eval = ev
             intro he
             unfold execOp
             simp only [he]
             go_simp),
         (step_run rfl (.inl rfl) fun a ww hw hf hd => ⟨_, ex_copy (.inr rfl) ww, hd 11 63 (by decide) (by kernel_rfl) rfl⟩), trivial⟩ ?_
      intro val w9 hw hS hap hla
      have e53 : val 53 = (.pointer (some ⟨w.heap.size, 0, none⟩)) := hS 0 53 (by decide) rfl
      have e54 : val 54 = (.agg (ints .u8 key).toArray) := hS 1 54 (by decide) rfl
      have e55 : val 55 = (.pointer (some ⟨w.heap.size, 32, none⟩)) := hS 2 55 (by decide) rfl
      have e56 : val 56 = (.agg (ints .u8 nonce).toArray) := hS 3 56 (by decide) rfl
      have e57 : val 57 = (.pointer (some ⟨w.heap.size, 44, none⟩)) := hS 4 57 (by decide) rfl
      have e58 : val 58 = (.int .u32 (c : Int)) := hS 5 58 (by decide) rfl
      have e59 : val 59 = (.slice A lb cap) := hS 6 59 (by decide) rfl
      have e60 : val 60 = (.int .i64 (kn : Int)) := hS 7 60 (by decide) rfl
      have e61 : val 61 = (.slice A kn cap) := hS 8 61 (by decide) rfl
      have e64 : val 64 = (.int .i64 0) := hS 12 64 (by decide) rfl
      simp only [putVals, List.foldl_cons, List.foldl_nil, List.drop_succ_cons, List.drop_zero, Act.put, List.setIfInBounds_toArray, List.set_cons_succ, List.set_cons_zero, e53, e54, e55, e56, e57, e58, e59, e60, e61, e64]
      obtain ⟨AZ, dZ, hvz, hNZ⟩ : IsSl kn (xl.take kn) (val 12) w9 := hS 13 12 (by decide) rfl
      rw [hvz]
      clear hS hap hla e53 e54 e55 e56 e57 e58 e59 e60 e61 e64
      have hB9 : Below w.heap.size w w9 := hB1.trans ((hb2.mono hz0).trans ((hb3.mono (Nat.le_trans hz0 hb2.size)).trans ((hb4.mono (Nat.le_trans (Nat.le_trans hz0 hb2.size) hb3.size)).trans (hw.mono (Nat.le_trans (Nat.le_trans (Nat.le_trans hz0 hb2.size) hb3.size) hb4.size)))))
      have hz9 := hB9.size
      have hA9 := hA4.below hw
      have hX9 := nums_take (hX4.below hw) kn
      have hY9 := hNY.nums.below hw
      have hkd : (kn : Int) ≤ dX := by have := HKL.out; omega
      have hkd2 : kn ≤ dX := by have := HKL.out; omega
      have hlt2 : Hid ((xl.take kn).length = kn) := hid (by rw [List.length_take, hxlen.out]; have := HKL.out; omega)
      have E8 : Hid (kn ≤ maxLen) := hid (Nat.le_trans HKL.out E9.out)
      have heq := decide_eq_true (rfl : (lb : Int) = lb)
      clear hw hb2 hb3 hb4 hB1 q54 q56 q58 hvz hc4 hT4 hA4 hX4 hkx hkc hdX
      go_wp2_with (first
        | (go_at_call 11; with_reducible refine (same_eq2 AY A dY cap lb b b _ rfl HL.out E9.out hY9 hA9).mono ?_; rintro e w10 ⟨rfl, hb10⟩)
        | (go_at_call 11; with_reducible refine (same_eq2 AZ AX dZ dX kn (xl.take kn) (xl.take kn) _ rfl hlt2.out E8.out (hNZ.below hb10) (hX9.below hb10)).mono ?_; rintro e w11 ⟨rfl, hb11⟩))
      go_ret
      have z10 := Nat.le_trans hz9 hb10.size
      exact ⟨rfl, hB9.trans ((hb10.mono hz9).trans (hb11.mono z10))⟩
    · have hlim := hide_limit key nonce c lb cap A
      have HLM := hid hlm
      have HG := hid (show 64 * L < lb by omega)
      clear hlm hl0 hg
      go_wp2_with (first
        | (go_at_call 6; rw [HW1.out]; refine (awake_any _ hT1).mono ?_; rintro e w2 ⟨rfl, hb2⟩
           have hc2 := hca.below hb2
           have r2 := hc2.k.range
           have s2 := hc2.n.range
           have c2 := hc2.c)
        | (with_reducible refine wpList_load_mid (op := ⟨some 21, .load 22 (.tmp 20), _, _, _, _⟩) rfl 22 (.tmp 20) rfl w.heap.size 0 rfl (ints .u8 key) _ r2 Tryd.underlying22 rfl i22 ?_)
        | (with_reducible refine wpList_load_mid (op := ⟨some 23, .load 23 (.tmp 22), _, _, _, _⟩) rfl 23 (.tmp 22) rfl w.heap.size 32 rfl (ints .u8 nonce) _ s2 Tryd.underlying23 rfl i23 ?_)
        | (go_at_call 13; refine (hlim _ H5.out hc (by rw [HLL.out]; exact HG.out)).mono ?_; rintro e w3 ⟨rfl, hb3⟩))
      go_ret
      exact ⟨rfl, hB1.trans ((hb2.mono hz0).trans (hb3.mono (Nat.le_trans hz0 hb2.size)))⟩
  · have h5a : (500 : Int) < lb := by omega
    go_wp2_with (go_at_call 6; rw [HW1.out]; refine (awake_any _ hT1).mono ?_; rintro e w2 ⟨rfl, hb2⟩)
    go_ret
    exact ⟨rfl, hB1.trans (hb2.mono hz0)⟩
end Go.Proofs.YtcbcahlgafngcaaDoor
