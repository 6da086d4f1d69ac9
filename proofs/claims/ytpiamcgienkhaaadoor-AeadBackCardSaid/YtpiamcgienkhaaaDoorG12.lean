/- Texts of this proof, laid together: AMath, AFun. -/
import Derived.Test.YtpiamcgienkhaaaDoorAWord
import Derived.Test.YtpiamcgienkhaaaDoorG7
import Derived.Test.YtpiamcgienkhaaaDoorG2
/- What is tagged, what is hidden, what a sealed text is; bytes that differ. No program is named. -/
namespace Go.Proofs.YtpiamcgienkhaaaDoor
open Go Go.RowKit

/-- How many zero bytes are behind a part. -/
def fillN (n : Nat) : Nat := (16 - n % 16) % 16
set_option maxRecDepth 50000 in
theorem fillN_lt (n : Nat) : fillN n < 16 := Nat.mod_lt _ (by omega)
set_option maxRecDepth 50000 in
theorem fillN_mod (n : Nat) : (n + fillN n) % 16 = 0 := by unfold fillN; omega
/-- The text whose tag it is. -/
def tagT (be hi : List Int) : List Int := be ++ (zeros (fillN be.length) ++ (hi ++ (zeros (fillN hi.length) ++ (le8 be.length ++ le8 hi.length))))
set_option maxRecDepth 50000 in
theorem tagT_len (be hi : List Int) : (tagT be hi).length = be.length + fillN be.length + hi.length + fillN hi.length + 16 := by
  simp only [tagT, List.length_append, zeros_len, le8_length]
  omega
set_option maxRecDepth 50000 in
theorem tagT_byt {be hi : List Int} (h1 : Byt be) (h2 : Byt hi) : Byt (tagT be hi) := by
  have h3 : Byt (le8 be.length) := le8_byt _
  have h4 : Byt (le8 hi.length) := le8_byt _
  exact h1.app ((byt_zeros _).app (h2.app ((byt_zeros _).app (h3.app h4))))
/-- The key of the tag. -/
def onceL (key nonce : List Int) : List Int := (blockL key nonce 0).take 32
set_option maxRecDepth 50000 in
theorem onceL_len {key nonce : List Int} (hk : key.length = 32) (hn : nonce.length = 12) : (onceL key nonce).length = 32 := by
  unfold onceL
  rw [List.length_take, blockL_length hk hn]; rfl
set_option maxRecDepth 50000 in
theorem onceL_byt (key nonce : List Int) : Byt (onceL key nonce) := (blockL_byt key nonce 0).take 32
/-- The tag. -/
def atag (key nonce be hi : List Int) : List Int := tagL (onceL key nonce) (tagT be hi)
set_option maxRecDepth 50000 in
theorem atag_len (key nonce be hi : List Int) : (atag key nonce be hi).length = 16 := lb_length _
set_option maxRecDepth 50000 in
theorem atag_byt (key nonce be hi : List Int) : Byt (atag key nonce be hi) := lb_byt _
/-- The text, hidden. -/
def hidT (key nonce t : List Int) : List Int := hideL t (strm key nonce 1 (4294967296 - 1))
set_option maxRecDepth 50000 in
theorem hidT_room {key nonce t : List Int} (hk : key.length = 32) (hn : nonce.length = 12) (ht : t.length ≤ 1000) : t.length ≤ (strm key nonce 1 (4294967296 - 1)).length := by
  rw [strm_length hk hn]
  omega
set_option maxRecDepth 50000 in
theorem hidT_len {key nonce t : List Int} (hk : key.length = 32) (hn : nonce.length = 12) (ht : t.length ≤ 1000) : (hidT key nonce t).length = t.length := hideL_length (hidT_room hk hn ht)
set_option maxRecDepth 50000 in
theorem hidT_twice {key nonce t : List Int} (hk : key.length = 32) (hn : nonce.length = 12) (ht : t.length ≤ 1000) (hb : HByt t) : hidT key nonce (hidT key nonce t) = t := hideL_twice hb (strm_byt _ _ _ _) (hidT_room hk hn ht)
set_option maxRecDepth 50000 in
theorem hidT_byt (key nonce : List Int) {t : List Int} (hb : HByt t) : HByt (hidT key nonce t) := hideL_byt hb (strm_byt _ _ _ _)
/-- A sealed text. -/
def sealL (key nonce be t : List Int) : List Int := hidT key nonce t ++ atag key nonce be (hidT key nonce t)
set_option maxRecDepth 50000 in
theorem sealL_len {key nonce be t : List Int} (hk : key.length = 32) (hn : nonce.length = 12) (ht : t.length ≤ 1000) : (sealL key nonce be t).length = t.length + 16 := by
  unfold sealL
  rw [List.length_append, hidT_len hk hn ht, atag_len]
set_option maxRecDepth 50000 in
theorem sealL_byt {key nonce be t : List Int} (hb : HByt t) : Byt (sealL key nonce be t) := (show Byt _ from hidT_byt key nonce hb).app (atag_byt _ _ _ _)
/-- Whether it is opened. -/
def goodL (key nonce be s : List Int) : Bool := decide (atag key nonce be (s.take (s.length - 16)) = s.drop (s.length - 16))
set_option maxRecDepth 50000 in
theorem good_seal {key nonce be t : List Int} (hk : key.length = 32) (hn : nonce.length = 12) (ht : t.length ≤ 1000) : goodL key nonce be (sealL key nonce be t) = true := by
  unfold goodL
  rw [sealL_len hk hn ht, Nat.add_sub_cancel]
  have e := hidT_len hk hn ht
  unfold sealL
  rw [← e, List.take_left, List.drop_left]
  simp
set_option maxRecDepth 50000 in
theorem seal_take {key nonce be t : List Int} (hk : key.length = 32) (hn : nonce.length = 12) (ht : t.length ≤ 1000) : (sealL key nonce be t).take ((sealL key nonce be t).length - 16) = hidT key nonce t := by
  rw [sealL_len hk hn ht, Nat.add_sub_cancel, ← hidT_len hk hn ht]
  unfold sealL
  rw [List.take_left]
set_option maxRecDepth 50000 in
/-- What is opened is what is sealed so. -/
theorem seal_good {key nonce be s : List Int} (hk : key.length = 32) (hn : nonce.length = 12) (hs : s.length ≤ 1000) (hb : HByt s) (hg : goodL key nonce be s = true) : sealL key nonce be (hidT key nonce (s.take (s.length - 16))) = s := by
  unfold goodL at hg
  have hg := of_decide_eq_true hg
  unfold sealL
  rw [hidT_twice hk hn (by rw [List.length_take]; omega) (hb.take _), hg, List.take_append_drop]

set_option maxRecDepth 50000 in
theorem nat_or_zero {a b : Nat} : a ||| b = 0 ↔ a = 0 ∧ b = 0 := by
  refine ⟨fun h => ⟨?_, ?_⟩, fun ⟨h1, h2⟩ => by rw [h1, h2]; rfl⟩
  · have := Nat.left_le_or (n := a) (m := b); omega
  · have := Nat.right_le_or (n := a) (m := b); omega
set_option maxRecDepth 50000 in
theorem or_zero8 {d e : Int} (hd : 0 ≤ d ∧ d < 256) (he : 0 ≤ e ∧ e < 256) : (0 ≤ bits .or .u8 d e ∧ bits .or .u8 d e < 256) ∧ (bits .or .u8 d e = 0 ↔ d = 0 ∧ e = 0) := by
  rw [u8_or _ _ hd.1 hd.2 he.1 he.2]
  have h1 := Nat.or_lt_two_pow (nat_lt8 d hd) (nat_lt8 e he)
  have h2 := nat_or_zero (a := d.toNat) (b := e.toNat)
  refine ⟨⟨by omega, by omega⟩, ?_⟩
  constructor
  · intro h
    have := h2.1 (by omega)
    omega
  · intro h
    have := h2.2 (by omega)
    omega
set_option maxRecDepth 50000 in
theorem xb_zero {a b : Int} (ha : 0 ≤ a ∧ a < 256) (hb : 0 ≤ b ∧ b < 256) : xb a b = 0 ↔ a = b := by
  constructor
  · intro h
    have h1 := xb_twice ha hb
    have h2 := xb_twice (a := b) hb hb
    have h3 : xb b b = 0 := by
      show bits .xor .u8 b b = 0
      rw [u8_xor _ _ hb.1 hb.2 hb.1 hb.2, Nat.xor_self]; rfl
    rw [h] at h1
    rw [h3] at h2
    rw [← h1, h2]
  · intro h
    subst h
    show bits .xor .u8 a a = 0
    rw [u8_xor _ _ ha.1 ha.2 ha.1 ha.2, Nat.xor_self]; rfl
/-- Whether two rows differ before place k. -/
def DiffI (xs ys : List Int) (k : Nat) (d : Int) : Prop := (0 ≤ d ∧ d < 256) ∧ (d = 0 ↔ xs.take k = ys.take k)
set_option maxRecDepth 50000 in
theorem DiffI.start (xs ys : List Int) : DiffI xs ys 0 0 := ⟨by omega, by simp⟩
set_option maxRecDepth 50000 in
theorem DiffI.step {xs ys : List Int} {k : Nat} {d x y : Int} (h : DiffI xs ys k d) (hx : xs[k]? = some x) (hy : ys[k]? = some y) (hxb : 0 ≤ x ∧ x < 256) (hyb : 0 ≤ y ∧ y < 256) : DiffI xs ys (k + 1) (bits .or .u8 d (xb x y)) := by
  have h1 := or_zero8 h.1 (xb_byt hxb hyb)
  refine ⟨h1.1, ?_⟩
  rw [h1.2, h.2, xb_zero hxb hyb, take_succ_at hx, take_succ_at hy]
  constructor
  · rintro ⟨e1, e2⟩
    rw [e1, e2]
  · intro e
    have := List.append_inj' e rfl
    exact ⟨this.1, by simpa using this.2⟩
end Go.Proofs.YtpiamcgienkhaaaDoor

/- Filling, length, Size and Equal. -/
namespace Go.Proofs.YtpiamcgienkhaaaDoor
open Go Go.RowKit

set_option maxRecDepth 50000 in
theorem afill_any (A : Option Addr) (n c f : Nat) (w : World) (hn : n ≤ 4096) (hf : fillN n = f) :
    Calls Tryd.prog 20 #[.slice A n c] w fun e w' => ∃ B, e = .returned (.slice B f f) ∧ Nums w' .u8 B (zeros f) ∧ Below w.heap.size w w' := by
  obtain ⟨i0, hi0, hz0, hz1, hz2⟩ := info_parts Tryd.info5
  have hf16 : f < 16 := by rw [← hf]; exact fillN_lt n
  have e1 : (n : Int).tmod 16 = ((n % 16 : Nat) : Int) := by rw [Int.tmod_eq_emod_of_nonneg (by omega)]; omega
  have e2 : ((16 : Int) - ((n % 16 : Nat) : Int)).tmod 16 = (f : Int) := by
    rw [Int.tmod_eq_emod_of_nonneg (by omega), ← hf]
    unfold fillN
    omega
  have b1 : ((n % 16 : Nat) : Int) < 16 := by omega
  have b0 : (0 : Int) ≤ ((n % 16 : Nat) : Int) := by omega
  clear hf
  generalize ((n % 16 : Nat) : Int) = r at *
  have hn1 : (n : Int) ≤ 4096 := by omega
  go_enter Tryd.func20, Tryd.ntmps20
  go_wp2_with (at_make; refine wpList_make_full _ rfl _ _ 24 rfl w.heap.size 5 i0 _ 1 Tryd.underlying24 hi0 hz0 hz1 .i64 .i64 _ _ f rfl rfl ?_ ?_ ?_ ?_ ?_ ?_)
  · rfl
  · rfl
  · rw [hz2]; omega
  · unfold maxLen; omega
  · exact Nat.le_refl _
  intro w1 hown hgrow
  have hb1 : Below w.heap.size w w1 := (Below.refl _ _).grown hgrow (Nat.le_refl _) (by simp)
  have hO : Owns w1 w.heap.size 5 .u8 (.slice (some ⟨w.heap.size, 0, none⟩) f f) (zeros f) := by
    unfold Owns zeros
    rw [List.length_replicate, List.map_replicate, ← toList_madeCells_one]
    exact hown
  clear hown hgrow
  go_wp2
  go_ret
  exact ⟨_, rfl, hO.nums, hb1⟩
set_option maxRecDepth 50000 in
theorem alen_any (A : Option Addr) (n c : Nat) (w : World) (hn : n ≤ 4096) :
    Calls Tryd.prog 21 #[.slice A n c] w fun e w' => ∃ B d, e = .returned (.slice B 8 d) ∧ 8 ≤ d ∧ Nums w' .u8 B (le8 n) ∧ Below w.heap.size w w' := by
  go_enter Tryd.func21, Tryd.ntmps21
  go_wp2_with (go_at_call 33; refine (wlow8 n _ hn).mono ?_; rintro e w' ⟨B, d, rfl, hd, hN, hb⟩)
  go_ret
  exact ⟨B, d, rfl, hd, hN, hb⟩
/-- How many bytes a sealed text has. -/
def sizeN (n : Int) : Int := if 0 ≤ n ∧ n ≤ 1048560 then n + 16 else 0
set_option maxRecDepth 50000 in
theorem asize_any (n : Int) (w : World) (h1 : -9223372036854775808 ≤ n) (h2 : n < 9223372036854775808) : Calls Tryd.prog 12 #[.int .i64 n] w fun e w' => e = .returned (.int .i64 (sizeN n)) ∧ Below w.heap.size w w' := by
  unfold sizeN
  by_cases c1 : n < 0
  · rw [if_neg (by omega)]
    go_enter Tryd.func12, Tryd.ntmps12
    go_wp2
    go_ret
    exact ⟨rfl, Below.refl _ _⟩
  by_cases c2 : 1048560 < n
  · rw [if_neg (by omega)]
    go_enter Tryd.func12, Tryd.ntmps12
    go_wp2
    go_ret
    exact ⟨rfl, Below.refl _ _⟩
  rw [if_pos (by omega)]
  go_enter Tryd.func12, Tryd.ntmps12
  go_wp2
  go_ret
  exact ⟨rfl, Below.refl _ _⟩
set_option maxRecDepth 50000 in
theorem aequal_ne (A B : Option Addr) (n m c d : Nat) (w : World) (h : n ≠ m) :
    Calls Tryd.prog 15 #[.slice A n c, .slice B m d] w fun e w' => e = .returned (.bool false) ∧ Below w.heap.size w w' := by
  have h1 : (n : Int) ≠ (m : Int) := by omega
  have hne : decide ((n : Int) = (m : Int)) = false := decide_eq_false h1
  go_enter Tryd.func15, Tryd.ntmps15
  go_wp2
  go_ret
  exact ⟨rfl, Below.refl _ _⟩
set_option maxRecDepth 50000 in
theorem aequal_same (A B : Option Addr) (n c d : Nat) (xs ys : List Int) (w : World) (hn : n ≤ 4096) (hx : Hid (xs.length = n)) (hy : Hid (ys.length = n)) (bx : HByt xs) (by_ : HByt ys) (hA : Nums w .u8 A xs) (hB : Nums w .u8 B ys) :
    Calls Tryd.prog 15 #[.slice A n c, .slice B n d] w fun e w' => ∃ r, e = .returned (.bool r) ∧ Hid (r = decide (xs = ys)) ∧ Below w.heap.size w w' := by
  have hn1 : (n : Int) ≤ 4096 := by omega
  go_enter Tryd.func15, Tryd.ntmps15
  go_wp2
  go_loopw [5, 15] (fun v i wr => ∃ (k : Nat) (dv : Int), k ≤ n ∧ i = .int .i64 k ∧ v = .int .u8 dv ∧ Hid (DiffI xs ys k dv) ∧ 0 ≤ dv ∧ dv < 256 ∧ wr = w) (fun _ i _ => n - (intOf i).toNat)
  case atStart => exact ⟨0, 0, Nat.zero_le _, rfl, rfl, hid (DiffI.start xs ys), by omega, by omega, rfl⟩
  case round =>
    obtain ⟨k, dv, hk, rfl, rfl, HD, hd0, hd1, rfl⟩ := hrel
    by_cases hlt : k < n
    · have hk0 : (0 : Int) ≤ k := by omega
      have hk1 : (k : Int) < n := by omega
      obtain ⟨b1, o1, x, rfl, _, hc1, H1⟩ := hA.get (i := k) (by rw [hx.out]; exact hlt)
      obtain ⟨b2, o2, y, rfl, _, hc2, H2⟩ := hB.get (i := k) (by rw [hy.out]; exact hlt)
      have hS := HD.out.step H1.out H2.out (bx.at_ H1.out) (by_.at_ H2.out)
      obtain ⟨z, hz⟩ : ∃ z, bits .xor .u8 x y = z := ⟨_, rfl⟩
      obtain ⟨q, hq⟩ : ∃ q, bits .or .u8 dv z = q := ⟨_, rfl⟩
      have e1 : bits .or .u8 dv (xb x y) = q := by show bits .or .u8 dv (bits .xor .u8 x y) = q; rw [hz, hq]
      rw [e1] at hS
      have q0 := hS.1.1
      have q1 := hS.1.2
      have HS := hid hS
      clear hS e1
      go_wp2
      go_roundw
      case rel => exact ⟨k + 1, q, by omega, by go_num, rfl, HS, q0, q1, trivial⟩
      case measure => simp [intOf]; omega
    · have e : k = n := by omega
      subst e
      have hE : (dv = 0) ↔ xs = ys := by
        have := HD.out.2
        rwa [List.take_of_length_le (by rw [hx.out]; omega), List.take_of_length_le (by rw [hy.out]; omega)] at this
      have HR : Hid ((dv == 0) = decide (xs = ys)) := hid (by
        by_cases h0 : dv = 0
        · rw [decide_eq_true (hE.1 h0), h0]; rfl
        · rw [decide_eq_false (fun h => h0 (hE.2 h))]; exact beq_false_of_ne h0)
      clear hE
      go_wp2
      go_ret
      exact ⟨(dv == 0), rfl, HR, Below.refl _ _⟩
end Go.Proofs.YtpiamcgienkhaaaDoor
