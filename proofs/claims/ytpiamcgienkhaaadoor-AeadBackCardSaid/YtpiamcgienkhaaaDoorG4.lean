/- Texts of this proof, laid together: PRefC, PRefT. -/
import Derived.Test.YtpiamcgienkhaaaDoorG3
import Derived.Test.YtpiamcgienkhaaaDoorG2
/- The reference's Clamp. -/
namespace Go.Proofs.YtpiamcgienkhaaaDoor
open Go Go.RowKit

set_option maxRecDepth 50000 in
theorem clampL_at {bs : List Int} {k : Nat} {x : Int} (h : k < 16) (hx : bs[k]? = some x) : (clampL bs)[k]? = some (if k % 4 = 0 ∧ 4 ≤ k then (if k % 4 = 3 then x % 16 else x) / 4 * 4 else if k % 4 = 3 then x % 16 else x) := by
  have hg : bs.getD k 0 = x := by rw [List.getD_eq_getElem?_getD, hx]; rfl
  have h1 := K1_at bs 16 h
  rw [hg] at h1
  have h2 : (K1 bs 16).getD k 0 = if k % 4 = 3 then x % 16 else x := by
    rw [List.getD_eq_getElem?_getD, h1]
    show (if k % 4 = 3 ∧ k < 16 then x % 16 else x) = _
    by_cases h3 : k % 4 = 3
    · rw [if_pos ⟨h3, h⟩, if_pos h3]
    · rw [if_neg (fun h => h3 h.1), if_neg h3]
  unfold clampL
  rw [K2_at _ 16 h, h2]
  congr 1
  by_cases h3 : k % 4 = 0 ∧ 4 ≤ k
  · rw [if_pos ⟨h3.1, h3.2, h⟩, if_pos h3]
  · rw [if_neg (fun h => h3 ⟨h.1, h.2.1⟩), if_neg h3]
set_option maxRecDepth 50000 in
theorem take_snoc {l : List Int} {k : Nat} {v : Int} (h : l[k]? = some v) : l.take (k + 1) = l.take k ++ [v] := by rw [List.take_add_one, h]; rfl
set_option maxRecDepth 4000 in
set_option maxHeartbeats 4000000 in
theorem rclamp_core {A : Option Addr} {cA : Nat} {bs r : List Int} {w : World} (HL : Hid (bs.length = 16)) (HB : Hid (Byt bs)) (hA : Nums w .u8 A bs) (HR : Hid (clampL bs = r)) (HRL : Hid (r.length = 16)) :
    Calls Tryd.prog 38 #[.slice A 16 cA] w fun e w' => ∃ B d, e = .returned (.slice B 16 d) ∧ NumsF w.heap.size w' .u8 B r ∧ Below w.heap.size w w' := by
  have hA0 := hA
  clear hA
  go_enter Tryd.func38, Tryd.ntmps38
  go_wp2
  go_loopw [3, 4] (fun v i wr => ∃ (k : Nat) (R : Option Addr) (n d : Nat), k ≤ 16 ∧ v = .slice R n d ∧ i = .int .i64 (k : Int) ∧ Owns wr w.heap.size 5 .u8 (.slice R n d) (r.take k) ∧ Below w.heap.size w wr) (fun _ i _ => 16 - (intOf i).toNat)
  case atStart => exact ⟨0, none, 0, 0, Nat.zero_le _, rfl, rfl, Owns.none_ _ _ _ _, Below.refl _ _⟩
  case round =>
    obtain ⟨k, R, n, d, hk, rfl, rfl, hO, hb⟩ := hrel
    rename World => W1
    have hsz := hb.size
    by_cases hlt : k < 16
    · obtain ⟨g, o, rfl, _, cA⟩ := (hA0.below hb).num (by rw [HL.out]; omega)
      have hx := getD_some (l := bs) (i := k) (by rw [HL.out]; exact hlt)
      have cx := cA _ _ hx
      have hxb := HB.out.at_ hx
      have HV := hid (clampL_at hlt hx)
      rw [HR.out] at HV
      have HTL : Hid ((r.take k).length ≤ 16) := hid (by rw [List.length_take]; omega)
      have HW5 : Hid (∀ A' n' c' w2, Grew W1 w2 (Value.slice R n d) (Value.slice A' n' c') → Below w.heap.size w w2) := hid fun A' n' c' w2 hG => hb.trans (hG.below hsz (fun g hg => (hO.lt g hg).1))
      clear hx cA
      generalize bs.getD k 0 = x at *
      have k0 : (0 : Int) ≤ k := by omega
      have k16 : (k : Int) < 16 := by omega
      have hwk : IntKind.i64.wrap ((k : Int) + 1) = (k : Int) + 1 := IntWalk.i64_in _ (by omega)
      by_cases h3 : k % 4 = 3
      · rw [if_neg (by omega), if_pos h3] at HV
        have HT := hid (take_snoc HV.out)
        obtain ⟨y, hy⟩ : ∃ y, y = x % 16 := ⟨_, rfl⟩
        have y1 : x % 16 = y := hy.symm
        have y2 : Int.tmod x 16 = y := by rw [Int.tmod_eq_emod_of_nonneg (by omega), hy]
        have y3 : IntKind.u8.wrap y = y := IntWalk.u8_in _ (by omega)
        rw [← hy] at HT
        have e4 : ((k : Int) == 4) = false := by simp; omega
        have e8 : ((k : Int) == 8) = false := by simp; omega
        have e12 : ((k : Int) == 12) = false := by simp; omega
        have HXX := hid (And.intro hxb hy)
        by_cases c3 : k = 3
        · have e3 : ((k : Int) == 3) = true := by rw [beq_iff_eq]; omega
          clear hxb hy h3 c3
          go_wp2_with (at_builtin; refine app_oneP rfl (.tmp 43) (.tmp 45) 24 rfl w.heap.size 5 .u8 1 Tryd.underlying24 infB3 (by omega) R n d (r.take k) rfl hO _ 1 rfl (by have := HTL.out; omega) hsz ?_; intro A' n' c' w2 hO2 hG2)
          go_roundw
          case rel => exact ⟨k + 1, A', n', c', by omega, rfl, by go_num, by rw [HT.out]; exact hO2, HW5.out _ _ _ _ hG2⟩
          case measure => simp [intOf]; omega
        · have e3 : ((k : Int) == 3) = false := by simp; omega
          by_cases c7 : k = 7
          · have e7 : ((k : Int) == 7) = true := by rw [beq_iff_eq]; omega
            clear hxb hy h3 c3 c7
            go_wp2_with (at_builtin; refine app_oneP rfl (.tmp 43) (.tmp 45) 24 rfl w.heap.size 5 .u8 1 Tryd.underlying24 infB3 (by omega) R n d (r.take k) rfl hO _ 1 rfl (by have := HTL.out; omega) hsz ?_; intro A' n' c' w2 hO2 hG2)
            go_roundw
            case rel => exact ⟨k + 1, A', n', c', by omega, rfl, by go_num, by rw [HT.out]; exact hO2, HW5.out _ _ _ _ hG2⟩
            case measure => simp [intOf]; omega
          · have e7 : ((k : Int) == 7) = false := by simp; omega
            by_cases c11 : k = 11
            · have e11 : ((k : Int) == 11) = true := by rw [beq_iff_eq]; omega
              clear hxb hy h3 c3 c7 c11
              go_wp2_with (at_builtin; refine app_oneP rfl (.tmp 43) (.tmp 45) 24 rfl w.heap.size 5 .u8 1 Tryd.underlying24 infB3 (by omega) R n d (r.take k) rfl hO _ 1 rfl (by have := HTL.out; omega) hsz ?_; intro A' n' c' w2 hO2 hG2)
              go_roundw
              case rel => exact ⟨k + 1, A', n', c', by omega, rfl, by go_num, by rw [HT.out]; exact hO2, HW5.out _ _ _ _ hG2⟩
              case measure => simp [intOf]; omega
            · have e11 : ((k : Int) == 11) = false := by simp; omega
              have e15 : ((k : Int) == 15) = true := by rw [beq_iff_eq]; omega
              clear hxb hy h3 c3 c7 c11
              go_wp2_with (at_builtin; refine app_oneP rfl (.tmp 43) (.tmp 45) 24 rfl w.heap.size 5 .u8 1 Tryd.underlying24 infB3 (by omega) R n d (r.take k) rfl hO _ 1 rfl (by have := HTL.out; omega) hsz ?_; intro A' n' c' w2 hO2 hG2)
              go_roundw
              case rel => exact ⟨k + 1, A', n', c', by omega, rfl, by go_num, by rw [HT.out]; exact hO2, HW5.out _ _ _ _ hG2⟩
              case measure => simp [intOf]; omega
      · rw [if_neg h3] at HV
        have e3 : ((k : Int) == 3) = false := by simp; omega
        have e7 : ((k : Int) == 7) = false := by simp; omega
        have e11 : ((k : Int) == 11) = false := by simp; omega
        have e15 : ((k : Int) == 15) = false := by simp; omega
        by_cases h4 : k % 4 = 0 ∧ 4 ≤ k
        · rw [if_pos h4] at HV
          have HT := hid (take_snoc HV.out)
          obtain ⟨q, hq⟩ : ∃ q, q = x / 4 := ⟨_, rfl⟩
          have q1 : x / 4 = q := hq.symm
          have q2 : Int.tdiv x 4 = q := by rw [Int.tdiv_eq_ediv_of_nonneg (by omega), hq]
          have q3 : IntKind.u8.wrap q = q := IntWalk.u8_in _ (by omega)
          have y3 : IntKind.u8.wrap (q * 4) = q * 4 := IntWalk.u8_in _ (by omega)
          rw [← hq] at HT
          have HXX := hid (And.intro hxb (And.intro hq h4))
          by_cases c4 : k = 4
          · have e4 : ((k : Int) == 4) = true := by rw [beq_iff_eq]; omega
            clear hxb hq h3 h4 c4
            go_wp2_with (at_builtin; refine app_oneP rfl (.tmp 43) (.tmp 45) 24 rfl w.heap.size 5 .u8 1 Tryd.underlying24 infB3 (by omega) R n d (r.take k) rfl hO _ 1 rfl (by have := HTL.out; omega) hsz ?_; intro A' n' c' w2 hO2 hG2)
            go_roundw
            case rel => exact ⟨k + 1, A', n', c', by omega, rfl, by go_num, by rw [HT.out]; exact hO2, HW5.out _ _ _ _ hG2⟩
            case measure => simp [intOf]; omega
          · have e4 : ((k : Int) == 4) = false := by simp; omega
            by_cases c8 : k = 8
            · have e8 : ((k : Int) == 8) = true := by rw [beq_iff_eq]; omega
              clear hxb hq h3 h4 c4 c8
              go_wp2_with (at_builtin; refine app_oneP rfl (.tmp 43) (.tmp 45) 24 rfl w.heap.size 5 .u8 1 Tryd.underlying24 infB3 (by omega) R n d (r.take k) rfl hO _ 1 rfl (by have := HTL.out; omega) hsz ?_; intro A' n' c' w2 hO2 hG2)
              go_roundw
              case rel => exact ⟨k + 1, A', n', c', by omega, rfl, by go_num, by rw [HT.out]; exact hO2, HW5.out _ _ _ _ hG2⟩
              case measure => simp [intOf]; omega
            · have e8 : ((k : Int) == 8) = false := by simp; omega
              have e12 : ((k : Int) == 12) = true := by rw [beq_iff_eq]; omega
              clear hxb hq h3 h4 c4 c8
              go_wp2_with (at_builtin; refine app_oneP rfl (.tmp 43) (.tmp 45) 24 rfl w.heap.size 5 .u8 1 Tryd.underlying24 infB3 (by omega) R n d (r.take k) rfl hO _ 1 rfl (by have := HTL.out; omega) hsz ?_; intro A' n' c' w2 hO2 hG2)
              go_roundw
              case rel => exact ⟨k + 1, A', n', c', by omega, rfl, by go_num, by rw [HT.out]; exact hO2, HW5.out _ _ _ _ hG2⟩
              case measure => simp [intOf]; omega
        · rw [if_neg h4] at HV
          have HT := hid (take_snoc HV.out)
          have e4 : ((k : Int) == 4) = false := by simp; omega
          have e8 : ((k : Int) == 8) = false := by simp; omega
          have e12 : ((k : Int) == 12) = false := by simp; omega
          clear hxb h3 h4
          go_wp2_with (at_builtin; refine app_oneP rfl (.tmp 43) (.tmp 45) 24 rfl w.heap.size 5 .u8 1 Tryd.underlying24 infB3 (by omega) R n d (r.take k) rfl hO _ 1 rfl (by have := HTL.out; omega) hsz ?_; intro A' n' c' w2 hO2 hG2)
          go_roundw
          case rel => exact ⟨k + 1, A', n', c', by omega, rfl, by go_num, by rw [HT.out]; exact hO2, HW5.out _ _ _ _ hG2⟩
          case measure => simp [intOf]; omega
    · have e : k = 16 := by omega
      have hf : r.take k = r := List.take_of_length_le (by rw [HRL.out]; omega)
      rw [hf] at hO
      have hm := hO.len
      rw [HRL.out] at hm
      subst hm
      have hNF := hO.fresh
      have hk16 : ¬ (k : Int) < 16 := by omega
      clear hf e hO hlt hsz
      go_wp2
      go_ret
      exact ⟨R, ⟨d, rfl⟩, hNF, hb⟩
set_option maxRecDepth 50000 in
theorem rclamp_any {A : Option Addr} {cA : Nat} {bs : List Int} {w : World} (hl : bs.length = 16) (hb : Byt bs) (hA : Nums w .u8 A bs) :
    Calls Tryd.prog 38 #[.slice A 16 cA] w fun e w' => ∃ B d, e = .returned (.slice B 16 d) ∧ NumsF w.heap.size w' .u8 B (clampL bs) ∧ Below w.heap.size w w' :=
  rclamp_core (hid hl) (hid hb) hA (hid rfl) (hid (clampL_length bs))
end Go.Proofs.YtpiamcgienkhaaaDoor

/- The reference's tag. -/
namespace Go.Proofs.YtpiamcgienkhaaaDoor
open Go Go.RowKit

set_option maxRecDepth 50000 in
theorem Owns.aside {w w' : World} {base : Nat} {e : TypeId} {k : IntKind} {v v0 v0' : Value} {xs : List Int} (h : Owns w base e k v xs) (hG : Grew w w' v0 v0') (hne : ∀ g, v.ownBlock = some g → v0.ownBlock ≠ some g) : Owns w' base e k v xs :=
  h.keep fun g hg => hG.1.block g (h.lt g hg).2 (fun e => hne g hg e.symm)
set_option maxRecDepth 50000 in
theorem apart_l {w w' : World} {base : Nat} {e : TypeId} {k : IntKind} {v v0 v0' : Value} {xs : List Int} (h : Owns w base e k v xs) (hG : Grew w w' v0 v0') (hne : ∀ g, v.ownBlock = some g → v0.ownBlock ≠ some g) : ∀ g, v.ownBlock = some g → v0'.ownBlock ≠ some g :=
  fun g hg => hG.farP (hne g hg) (h.lt g hg).2
set_option maxRecDepth 50000 in
theorem apart_r {w w' : World} {base : Nat} {e : TypeId} {k : IntKind} {v v' v0 : Value} {xs : List Int} (h0 : Owns w base e k v0 xs) (hG : Grew w w' v v') (hne : ∀ g, v.ownBlock = some g → v0.ownBlock ≠ some g) : ∀ g, v'.ownBlock = some g → v0.ownBlock ≠ some g := fun g hg hg0 => by
  rcases hG.2 with e | e
  · exact hne g (by rw [← e]; exact hg) hg0
  · have := e g hg
    have := (h0.lt g hg0).2
    omega
set_option maxRecDepth 50000 in
theorem digits_q (A : Option Addr) (L c q : Nat) (bs : List Int) (w : World) (hl : bs.length = L) (hn : L ≤ 1000) (hq : (L + 1) / 2 = q) (hb : Byt bs) (hA : Nums w .u8 A bs) : Calls Tryd.prog 37 #[.slice A L c] w fun e w' => ∃ B d, e = .returned (.slice B q d) ∧ NumsF w.heap.size w' .i64 B (pr bs) ∧ Below w.heap.size w w' := by
  subst hq
  exact digits_walk A L c bs w hl hn hb hA
set_option maxRecDepth 50000 in
theorem modd_q (A : Option Addr) (L c q : Nat) (bs : List Int) (w : World) (hl : bs.length = L) (hn : L ≤ 1000) (hq : (L + 1) / 2 = q) (hb : Byt bs) (hA : Nums w .i64 A (pr bs)) : Calls Tryd.prog 36 #[.slice A q c] w (ROut (bn bs % PN) w) := by
  subst hq
  exact modd_any A L c bs w hl hn hb hA
set_option maxRecDepth 50000 in
theorem pchunk_at {m : List Int} {j t : Nat} (ht : t < 16) : (pchunk m j)[t]? = m[16 * j + t]? := by
  unfold pchunk
  rw [List.getElem?_take, if_pos ht, List.getElem?_drop]
set_option maxRecDepth 50000 in
theorem chunk_length (m : List Int) (j : Nat) : (pchunk m j).length = min 16 (m.length - 16 * j) := by simp [pchunk]
set_option maxRecDepth 50000 in
theorem pchunk_byt {m : List Int} (h : Byt m) (j : Nat) : Byt (pchunk m j) := (h.drop _).take _
set_option maxRecDepth 50000 in
theorem ref_step {r s : Nat} {x : List Int} : (s + bn (x ++ [1]) % PN) % PN * (r % PN) % PN = stepN r s x := by
  unfold stepN
  rw [Nat.add_mod_mod, ← Nat.mul_mod]
set_option maxRecDepth 50000 in
theorem two_pn {a b : Nat} (ha : a < PN) (hb : b < PN) : a + b < 65536 ^ 10 := by
  have h2 : 65536 ^ 10 = 1461501637330902918203684832716283019655932542976 := by decide
  rw [h2]
  unfold PN at ha hb
  omega
/-- The bytes of a sum, two by two. -/
def RI (aa ss : List Nat) (k : Nat) (zs : List Int) (cy : Nat) : Prop := zs.length = 16 ∧ Byt zs ∧ cy ≤ 1 ∧ bv (zs.take (2 * k)) + ((cy * 65536 ^ k : Nat) : Int) = ((dv (aa.take k) + dv (ss.take k) : Nat) : Int)
set_option maxRecDepth 50000 in
theorem RI.start (aa ss : List Nat) : RI aa ss 0 (zeros 16) 0 := ⟨zeros_len 16, byt_zeros 16, by omega, by simp [bv, dv]⟩
set_option maxRecDepth 50000 in
theorem pow_256 (k : Nat) : (256 : Int) ^ (2 * k) = ((65536 ^ k : Nat) : Int) := by
  rw [Int.pow_mul, Int.natCast_pow]
  rfl
set_option maxRecDepth 50000 in
theorem RI.step {aa ss : List Nat} {k cy x y t : Nat} {zs : List Int} (h : RI aa ss k zs cy) (hk : k < 8) (hx : aa[k]? = some x) (hy : ss[k]? = some y) (hxd : x < 65536) (hyd : y < 65536) (ht : t = x + y + cy) : RI aa ss (k + 1) ((zs.set (2 * k) ((t % 256 : Nat) : Int)).set (2 * k + 1) ((t / 256 % 256 : Nat) : Int)) (t / 65536) := by
  obtain ⟨h1, h2, h3, h4⟩ := h
  refine ⟨by simp [h1], fun z hz => ?_, by omega, ?_⟩
  · rcases List.mem_or_eq_of_mem_set hz with e | e
    · rcases List.mem_or_eq_of_mem_set e with e | e
      · exact h2 z e
      · rw [e]; omega
    · rw [e]; omega
  · have e1 : ((zs.set (2 * k) ((t % 256 : Nat) : Int)).set (2 * k + 1) ((t / 256 % 256 : Nat) : Int))[2 * k + 1]? = some ((t / 256 % 256 : Nat) : Int) := List.getElem?_set_self (by rw [List.length_set]; omega)
    have e0 : ((zs.set (2 * k) ((t % 256 : Nat) : Int)).set (2 * k + 1) ((t / 256 % 256 : Nat) : Int))[2 * k]? = some ((t % 256 : Nat) : Int) := by
      rw [List.getElem?_set_ne (by omega), List.getElem?_set_self (by omega)]
    rw [show 2 * (k + 1) = 2 * k + 1 + 1 by omega, bv_take_succ e1, bv_take_succ e0, List.take_set_of_le (by omega), List.take_set_of_le (Nat.le_refl _), dv_take_succ aa k x hx, dv_take_succ ss k y hy, Int.pow_succ, pow_256, Nat.pow_succ]
    have hd : ((t % 256 : Nat) : Int) + 256 * ((t / 256 % 256 : Nat) : Int) + 65536 * ((t / 65536 : Nat) : Int) = ((x + y + cy : Nat) : Int) := by omega
    generalize (t % 256 : Nat) = t0 at *
    generalize (t / 256 % 256 : Nat) = t1 at *
    generalize (t / 65536 : Nat) = t2 at *
    generalize 65536 ^ k = P at *
    have hm : (((t0 : Int) + 256 * (t1 : Int) + 65536 * (t2 : Int)) * (P : Int)) = ((x + y + cy : Nat) : Int) * (P : Int) := by rw [hd]
    rw [Int.add_mul, Int.add_mul, Int.natCast_add, Int.natCast_add, Int.add_mul, Int.add_mul] at hm
    have n1 : ((t2 * (P * 65536) : Nat) : Int) = 65536 * (t2 : Int) * (P : Int) := by
      rw [Int.natCast_mul, Int.natCast_mul, Int.mul_comm (P : Int), ← Int.mul_assoc, Int.mul_comm (t2 : Int)]; rfl
    have n2 : (t1 : Int) * ((P : Int) * 256) = 256 * (t1 : Int) * (P : Int) := by rw [Int.mul_comm (P : Int), ← Int.mul_assoc, Int.mul_comm (t1 : Int)]
    rw [n1, n2]
    have n3 : ((dv (aa.take k) + x * P + (dv (ss.take k) + y * P) : Nat) : Int) = ((dv (aa.take k) + dv (ss.take k) : Nat) : Int) + (x : Int) * P + (y : Int) * P := by
      simp only [Int.natCast_add, Int.natCast_mul]; omega
    rw [n3, ← h4]
    have n4 : ((cy * P : Nat) : Int) = (cy : Int) * P := by rw [Int.natCast_mul]
    rw [n4]
    omega
set_option maxRecDepth 50000 in
theorem RI.end_ {aa ss : List Nat} {zs : List Int} {cy S K : Nat} (h : RI aa ss 8 zs cy) (ha : R10 aa S) (hs : ss.length = 8) (hK : dv ss = K) : zs = lb (S + K) := by
  obtain ⟨h1, h2, h3, h4⟩ := h
  rw [List.take_of_length_le (by omega), List.take_of_length_le (by omega : ss.length ≤ 8), hK] at h4
  refine byt_inj (by rw [h1, lb_length]) h2 (lb_byt _) ?_
  rw [lb_bv]
  have i3 := bn_int h2
  have hz2 := bn_lt h2
  rw [h1] at hz2
  rw [← i3] at h4 ⊢
  congr 1
  have h5 : bn zs + cy * 65536 ^ 8 = dv (aa.take 8) + K := by exact_mod_cast h4
  have h6 := dv_split aa 8 (by rw [ha.1]; omega)
  rw [ha.2.2] at h6
  have e : 65536 ^ 8 = 256 ^ 16 := by decide
  rw [e] at h5 h6
  have h7 : (S + K) % 256 ^ 16 = (dv (aa.take 8) + K) % 256 ^ 16 := by
    rw [h6, show dv (aa.take 8) + 256 ^ 16 * dv (aa.drop 8) + K = dv (aa.take 8) + K + 256 ^ 16 * dv (aa.drop 8) by omega, Nat.add_mul_mod_self_left]
  rw [h7, ← h5, Nat.add_mul_mod_self_right, Nat.mod_eq_of_lt hz2]
set_option maxRecDepth 50000 in
theorem nat_at {l : List Nat} {k : Nat} (h : k < l.length) : l[k]? = some (l.getD k 0) := by rw [List.getD_eq_getElem?_getD, List.getElem?_eq_getElem h]; rfl
set_option maxRecDepth 8000 in
set_option maxHeartbeats 8000000 in
theorem rtag_core (key m r k1 k2 : List Int) (rr : Nat) (A : Option Addr) (L c : Nat) (w : World) (HK : Hid (key.length = 32)) (HKB : Hid (Byt key)) (HK1 : Hid (key.take 16 = k1)) (HK2 : Hid (key.drop 16 = k2)) (HK1L : Hid (k1.length = 16)) (HK2L : Hid (k2.length = 16)) (HK1B : Hid (Byt k1)) (HK2B : Hid (Byt k2))
    (HRR : Hid (bn (clampL k1) = rr)) (hl : m.length = L) (hn : L ≤ 1000) (HMB : Hid (Byt m)) (hA : Nums w .u8 A m) (HR : Hid (lb (sumN rr m + bn k2) = r)) (HRL : Hid (r.length = 16)) :
    Calls Tryd.prog 24 #[.agg (ints .u8 key).toArray, .slice A L c] w fun e w' => e = .returned (.agg (ints .u8 r).toArray) ∧ Below w.heap.size w w' := by
  obtain ⟨z33, s33⟩ := zero_of_info inf33
  have HL := hid hl
  clear hl
  have hK := (Arr.made w .u8 key 22).alloc (.cells (ints .u8 (zeros 16)).toArray 33)
  have hR := Arr.made (w.alloc (.cells (ints .u8 key).toArray 22)) .u8 (zeros 16) 33
  have hW := (below_new w (.cells (ints .u8 key).toArray 22)).alloc (by simp) (.cells (ints .u8 (zeros 16)).toArray 33)
  rw [World.size_alloc] at hR
  have hz0 : ((w.alloc (.cells (ints .u8 key).toArray 22)).alloc (.cells (ints .u8 (zeros 16)).toArray 33)).heap.size = w.heap.size + 1 + 1 := by simp
  have hA0 := hA.below hW
  obtain ⟨z10, hz⟩ : ∃ z, z = List.replicate 10 0 := ⟨_, rfl⟩
  have hmk : ∀ w : World, (Instr.makeSlice 70 (.int .i64 10) (.int .i64 10)).run Tryd.prog w = .ok (.slice (some ⟨w.heap.size, 0, none⟩) 10 10) (w.alloc (.cells (ints .i64 (nl z10)).toArray 3)) := by rw [hz]; exact make28 10 (by omega)
  have HO9 : Hid (∀ w : World, Owns (w.alloc (.cells (ints .i64 (nl z10)).toArray 3)) w.heap.size 3 .i64 (.slice (some ⟨w.heap.size, 0, none⟩) 10 10) (nl z10)) := by
    rw [hz]; exact hid fun w => Owns.new w w.heap.size 3 .i64 (nl (List.replicate 10 0)) (Nat.le_refl _) (by simp [maxLen])
  have HZ9 : Hid (R10 z10 (accN rr m 0)) := by
    rw [hz]; exact hid ⟨by simp, fun v hv => by have := List.eq_of_mem_replicate hv; omega, by have := dv_zeros [] 10; rw [List.nil_append] at this; rw [this]; rfl⟩
  clear hz hA
  have HMK := hid hmk
  clear hmk
  go_enter Tryd.func24, Tryd.ntmps24
  go_wp2
  generalize ((w.alloc (.cells (ints .u8 key).toArray 22)).alloc (.cells (ints .u8 (zeros 16)).toArray 33)) = W0 at *
  go_loopw [5, 6, 7] (fun v5 v6 i wr => ∃ (k : Nat) (R5 : Option Addr) (n5 d5 : Nat) (R6 : Option Addr) (n6 d6 : Nat), k ≤ 16 ∧ v5 = .slice R5 n5 d5 ∧ v6 = .slice R6 n6 d6 ∧ i = .int .i64 (k : Int) ∧ Owns wr W0.heap.size 5 .u8 (.slice R5 n5 d5) (key.take k) ∧ Owns wr W0.heap.size 5 .u8 (.slice R6 n6 d6) ((key.drop 16).take k) ∧ Hid (∀ g, (Value.slice R6 n6 d6).ownBlock = some g → (Value.slice R5 n5 d5).ownBlock ≠ some g) ∧ Below W0.heap.size W0 wr) (fun _ _ i _ => 16 - (intOf i).toNat)
  case atStart => exact ⟨0, none, 0, 0, none, 0, 0, Nat.zero_le _, rfl, rfl, rfl, Owns.none_ _ _ _ _, by rw [List.take_zero]; exact Owns.none_ _ _ _ _, hid (fun g hg => by cases hg), Below.refl _ _⟩
  case round =>
    obtain ⟨k, R5, n5, d5, R6, n6, d6, hk, rfl, rfl, rfl, hO5, hO6, HNE, hB⟩ := hrel
    rename World => W1
    have hsz := hB.size
    by_cases hlt : k < 16
    · have hKr := hK.below hB (by omega)
      have hx := getD_some (l := key) (i := k) (by rw [HK.out]; omega)
      have hy := getD_some (l := key) (i := 16 + k) (by rw [HK.out]; omega)
      have hy2 : (key.drop 16)[k]? = some (key.getD (16 + k) 0) := by rw [List.getElem?_drop]; exact hy
      have cx := hKr.at_ hx
      have cy0 := hKr.at_ hy
      rw [Nat.zero_add] at cx cy0
      have HT5 := hid (take_snoc hx)
      have HT6 := hid (take_snoc hy2)
      have HL5 : Hid ((key.take k).length ≤ 16) := hid (by rw [List.length_take]; omega)
      have HL6 : Hid (((key.drop 16).take k).length ≤ 16) := hid (by rw [List.length_take]; omega)
      clear hx hy hy2 hKr
      generalize key.getD k 0 = x at *
      obtain ⟨q, hq⟩ : ∃ q, q = 16 + k := ⟨_, rfl⟩
      rw [← hq] at cy0 HT6
      generalize key.getD q 0 = y at *
      have hqw : IntKind.i64.wrap (16 + (k : Int)) = (q : Int) := by rw [IntWalk.i64_in _ (by omega)]; omega
      have q0 : (0 : Int) ≤ q := by omega
      have q32 : (q : Int) < 32 := by omega
      have k0 : (0 : Int) ≤ k := by omega
      have k16 : (k : Int) < 16 := by omega
      have k32 : (k : Int) < 32 := by omega
      have hwk : IntKind.i64.wrap ((k : Int) + 1) = (k : Int) + 1 := IntWalk.i64_in _ (by omega)
      have cy1 : ∀ w2, Below W0.heap.size W1 w2 → w2.cell? ⟨w.heap.size, q, none⟩ = some (.int .u8 y) := fun w2 hb => (hb.cell (p := ⟨w.heap.size, q, none⟩) (by show w.heap.size < W0.heap.size; omega)).trans cy0
      have HCY := hid cy1
      have HQ := hid hq
      clear hq cy0 cy1
      go_wp2_with (first
        | (at_builtin; refine app_oneP rfl (.tmp 28) (.tmp 33) 24 rfl W0.heap.size 5 .u8 1 Tryd.underlying24 infB3 (by omega) R6 n6 d6 ((key.drop 16).take k) rfl hO62 _ 1 rfl (by have := HL6.out; omega) hsz2 ?_; intro A6' n6' c6' w3 hO63 hG6)
        | (at_builtin; refine app_oneP rfl (.tmp 22) (.tmp 26) 24 rfl W0.heap.size 5 .u8 1 Tryd.underlying24 infB3 (by omega) R5 n5 d5 (key.take k) rfl hO5 _ 1 rfl (by have := HL5.out; omega) hsz ?_; intro A5' n5' c5' w2 hO52 hG5
           have hb2 := hG5.below hsz (fun g hg => (hO5.lt g hg).1)
           have hO62 := hO6.aside hG5 HNE.out
           have HNE2 := hid (apart_l hO6 hG5 HNE.out)
           have hsz2 := Nat.le_trans hsz hb2.size
           have cy2 := HCY.out _ hb2))
      go_roundw
      case rel =>
        rw [← HT5.out] at hO52
        rw [← HT6.out] at hO63
        refine ⟨k + 1, A5', n5', c5', A6', n6', c6', by omega, rfl, rfl, by go_num, hO52.aside hG6 (fun g hg hg6 => HNE2.out g hg6 hg), hO63, hid (apart_r hO52 hG6 HNE2.out), hB.trans (hb2.trans (hG6.below hsz2 (fun g hg => (hO62.lt g hg).1)))⟩
      case measure => simp [intOf]; omega
    · have e : k = 16 := by omega
      subst e
      have hf6 : (key.drop 16).take 16 = k2 := by rw [HK2.out]; exact List.take_of_length_le (by rw [HK2L.out]; omega)
      rw [hf6] at hO6
      rw [HK1.out] at hO5
      have hm5 := hO5.len
      have hm6 := hO6.len
      rw [HK1L.out] at hm5
      rw [HK2L.out] at hm6
      subst hm5
      subst hm6
      have h5 := hO5.nums
      have h6 := hO6.nums
      have hcb := clampL_byt HK1B.out HK1L.out
      have hcl := clampL_length k1
      have HCB := hid hcb
      have HCL := hid hcl
      clear hf6 hO5 hO6 hcb hcl HNE hlt hk
      go_wp2_with (fail)
      refine (rclamp_any HK1L.out HK1B.out h5).mono ?_
      rintro e w2 ⟨B2, d2, rfl, hN2, hb2⟩
      go_wp2_with (fail)
      refine (digits_q B2 16 d2 8 (clampL k1) w2 HCL.out (by omega) (by decide) HCB.out hN2.nums).mono ?_
      rintro e w3 ⟨B3, d3, rfl, hN3, hb3⟩
      go_wp2_with (fail)
      refine (modd_q B3 16 d3 8 (clampL k1) w3 HCL.out (by omega) (by decide) HCB.out hN3.nums).mono ?_
      rw [HRR.out]
      rintro e w4 ⟨B4, d4, rs, rfl, HRS, hN4, hb4⟩
      have hb24 : Below W1.heap.size W1 w4 := hb2.trans ((Below.mono hb3 hb2.size).trans (Below.mono hb4 (Nat.le_trans hb2.size hb3.size)))
      have hB4 : Below W0.heap.size W0 w4 := hB.trans (Below.mono hb24 hsz)
      have h64 := h6.below hb24
      have hA4 := hA0.below hB4
      have hR4 := hR.below hB4 (by omega)
      have hW4 : Below w.heap.size w w4 := hW.trans (Below.mono hB4 (by omega))
      have hN4' := hN4.nums
      have HO := HO9.out w4
      have hB5 := below_new w4 (.cells (ints .i64 (nl z10)).toArray 3)
      have hmk := HMK.out
      clear hN2 hN3 hb2 hb3 hb4 hb24 hB4 h5 h6 hA0 hR hK hW hB hN4 hz0 hsz
      go_wp2
      clear hmk
      have h9 : Nums (w4.alloc (.cells (ints .i64 (nl z10)).toArray 3)) .i64 (some ⟨w4.heap.size, 0, none⟩) (nl z10) := Owns.nums HO
      have h65 := h64.below hB5
      have hA5 := hA4.below hB5
      have hR5 := hR4.next hB5
      have hW5 := hW4.trans (Below.mono hB5 hW4.size)
      have h85 := hN4'.below hB5
      clear HO hB5 h64 hA4 hR4 hW4 hN4'
      generalize hWW : w4.alloc (.cells (ints .i64 (nl z10)).toArray 3) = W5 at *
      generalize w4.heap.size = b9 at *
      clear hWW
      go_loopw [9, 10] (fun v9 v10 wr => ∃ (j : Nat) (A9 : Option Addr) (d9 : Nat) (aa : List Nat), j ≤ (L + 15) / 16 ∧ v9 = .slice A9 10 d9 ∧ v10 = .int .i64 ((16 * j : Nat) : Int) ∧ Hid (R10 aa (accN rr m j)) ∧ Nums wr .i64 A9 (nl aa) ∧ Below W5.heap.size W5 wr) (fun _ v10 _ => L + 16 - (intOf v10).toNat)
      case atStart => exact ⟨0, _, _, z10, Nat.zero_le _, rfl, rfl, HZ9, h9, Below.refl _ _⟩
      case round =>
        clear h9
        obtain ⟨j, A9, d9, aa, hj, rfl, rfl, HAS, h9, hB⟩ := hrel
        rename World => W6
        obtain ⟨p, hp⟩ : ∃ p, p = 16 * j := ⟨_, rfl⟩
        rw [← hp]
        by_cases hlt : p < L
        · have hpL : (p : Int) < L := by omega
          have hA6 := hA5.below hB
          have h86 := h85.below hB
          have HCHL := hid (chunk_length m j)
          have HCHB := hid (pchunk_byt HMB.out j)
          rw [HL.out] at HCHL
          have HCA : Hid (∀ t, t < 16 → (pchunk m j)[t]? = m[p + t]?) := hid fun t ht => by rw [hp]; exact pchunk_at ht
          have HNX : Hid (accN rr m (j + 1) = stepN rr (accN rr m j) (pchunk m j)) := hid (accN_succ _ _ _)
          have HAL := hid (accN_lt rr m j)
          generalize pchunk m j = ch at *
          have HP := hid hp
          have hpw : IntKind.i64.wrap ((p : Int) + 16) = (p : Int) + 16 := IntWalk.i64_in _ (by omega)
          have HP16 : Hid ((p : Int) + 16 = ((16 * (j + 1) : Nat) : Int)) := hid (by omega)
          clear hp
          go_wp2
          go_loopw [11, 12] (fun v11 v12 wr => ∃ (t : Nat) (R : Option Addr) (n d : Nat), t ≤ 16 ∧ p + t ≤ L ∧ v12 = .int .i64 ((p + t : Nat) : Int) ∧ v11 = .slice R n d ∧ Owns wr W6.heap.size 5 .u8 (.slice R n d) (ch.take t) ∧ Below W6.heap.size W6 wr) (fun _ v12 _ => L - (intOf v12).toNat)
          case atStart => exact ⟨0, none, 0, 0, Nat.zero_le _, by omega, rfl, rfl, Owns.none_ _ _ _ _, Below.refl _ _⟩
          case round =>
            obtain ⟨t, R, n, d, ht, htL, rfl, rfl, hO, hB7⟩ := hrel
            rename World => W7
            have hsz7 := hB7.size
            obtain ⟨q, hq⟩ : ∃ q, q = p + t := ⟨_, rfl⟩
            rw [← hq]
            have HTL : Hid ((ch.take t).length ≤ 16) := hid (by rw [List.length_take]; omega)
            by_cases hgo : t < 16 ∧ q < L
            · have hx := getD_some (l := m) (i := q) (by rw [HL.out]; exact hgo.2)
              obtain ⟨g, o, rfl, _, cA⟩ := (hA6.below hB7).num (by rw [HL.out]; omega)
              have cx := cA _ _ hx
              have HT := hid (take_snoc ((HCA.out t hgo.1).trans (by rw [← hq]; exact hx)))
              have HW5 : Hid (∀ A' n' c' w2, Grew W7 w2 (Value.slice R n d) (Value.slice A' n' c') → Below W6.heap.size W6 w2) := hid fun A' n' c' w2 hG => hB7.trans (hG.below hsz7 (fun g hg => (hO.lt g hg).1))
              generalize m.getD q 0 = x at *
              have q0 : (0 : Int) ≤ q := by omega
              have qL : (q : Int) < L := by omega
              have q16 : (q : Int) < (p : Int) + 16 := by omega
              have hqw : IntKind.i64.wrap ((q : Int) + 1) = ((p + (t + 1) : Nat) : Int) := by rw [IntWalk.i64_in _ (by omega)]; omega
              have HG := hid (And.intro hgo hq)
              clear hgo hq hx cA
              go_wp2_with (at_builtin; refine app_oneP rfl (.tmp 59) (.tmp 64) 24 rfl W6.heap.size 5 .u8 1 Tryd.underlying24 infB3 (by omega) R n d (ch.take t) rfl hO _ 1 rfl (by have := HTL.out; omega) hsz7 ?_; intro A' n' c' w2 hO2 hG2)
              go_roundw
              case rel =>
                rw [← HT.out] at hO2
                exact ⟨t + 1, A', n', c', by have := HG.out; omega, by have := HG.out; omega, rfl, rfl, hO2, HW5.out _ _ _ _ hG2⟩
              case measure => simp [intOf]; have := HG.out; omega
            · have hch : ch.take t = ch := List.take_of_length_le (by rw [HCHL.out, ← HP.out]; omega)
              rw [hch] at hO HTL
              obtain ⟨lp, hlp⟩ : ∃ lp, lp = ch.length := ⟨_, rfl⟩
              have HPL : Hid ((ch ++ [(1 : Int)]).length = lp + 1) := hid (by rw [List.length_append, hlp]; rfl)
              have HPB := hid (one_byt HCHB.out)
              have HP17 : Hid (lp + 1 ≤ 17) := hid (by have := HTL.out; omega)
              have HST := hid (ref_step (r := rr) (s := accN rr m j) (x := ch))
              rw [← HNX.out] at HST
              have HW5 : Hid (∀ A' n' c' w2, Grew W7 w2 (Value.slice R n d) (Value.slice A' n' c') → Below W6.heap.size W6 w2) := hid fun A' n' c' w2 hG => hB7.trans (hG.below hsz7 (fun g hg => (hO.lt g hg).1))
              have hguard : ((q : Int) < (p : Int) + 16 ∧ ¬ q < L) ∨ ¬ (q : Int) < (p : Int) + 16 := by
                by_cases h16 : (q : Int) < (p : Int) + 16
                · left
                  exact ⟨h16, by omega⟩
                · right; exact h16
              clear hgo hq hlp hch ht htL
              rcases hguard with ⟨g1, g2⟩ | g1
              all_goals
                go_wp2_with (at_builtin; refine app_oneP rfl (.tmp 66) (.tmp 67) 24 rfl W6.heap.size 5 .u8 1 Tryd.underlying24 infB3 (by omega) R n d ch rfl hO _ 1 rfl (by have := HTL.out; omega) hsz7 ?_; intro A' n' c' w8 hO8 hG8)
                have hn8 := hO8.len
                rw [HPL.out] at hn8
                subst hn8
                have hb8 := HW5.out _ _ _ _ hG8
                have h98 := h9.below hb8
                have h88 := h86.below hb8
                have hN8 := hO8.nums
                have hB8 := hB.trans (Below.mono hb8 hB.size)
                clear hO hB7 hsz7 hG8 hO8 hb8
                obtain ⟨qq, hqq⟩ : ∃ qq, (lp + 1 + 1) / 2 = qq := ⟨_, rfl⟩
                refine (digits_q A' (lp + 1) c' qq (ch ++ [1]) w8 HPL.out (by have := HP17.out; omega) hqq HPB.out hN8).mono ?_
                rintro e wa ⟨Ba, da, rfl, hNa, hba⟩
                have h9a := h98.below hba
                have h8a := h88.below hba
                have hBa := hB8.trans (Below.mono hba hB8.size)
                clear h98 h88 hB8 hN8 hba
                go_wp2_with (fail)
                refine (modd_q Ba (lp + 1) da qq (ch ++ [1]) wa HPL.out (by have := HP17.out; omega) hqq HPB.out hNa.nums).mono ?_
                rintro e wb ⟨Bb, db, ps, rfl, HPS, hNb, hbb⟩
                have h9b := h9a.below hbb
                have h8b := h8a.below hbb
                have hBb := hBa.trans (Below.mono hbb hBa.size)
                clear h9a h8a hBa hNa hbb
                go_wp2_with (fail)
                refine (radd_any (cA := d9) (cB := db) HAS.out HPS.out (two_pn HAL.out (Nat.mod_lt _ pn_pos)) h9b hNb.nums).mono ?_
                rintro e wc ⟨Bc, dc, us, rfl, HUS, hNc, hbc⟩
                have h8c := h8b.below hbc
                have hBc := hBb.trans (Below.mono hbc hBb.size)
                clear h9b h8b hBb hNb hbc
                go_wp2_with (fail)
                refine (rmul_any (cA := dc) (cB := d4) HUS.out HRS.out hNc.nums h8c).mono ?_
                rw [HST.out]
                rintro e wd ⟨Bd, dd, vs, rfl, HVS, hNd, hbd⟩
                have hBd := hBc.trans (Below.mono hbd hBc.size)
                have hNd' := hNd.nums
                clear h8c hBc hNc hbd hNd
                go_wp2
                go_roundw
                case rel => exact ⟨j + 1, Bd, dd, vs, by have := HP.out; omega, rfl, by rw [HP16.out], HVS, hNd', hBd⟩
                case measure => have h1 := HP.out; have h2 := HP16.out; simp [intOf]; omega
        · have hS : accN rr m j = sumN rr m := by unfold sumN; congr 1; rw [HL.out]; omega
          rw [hS] at HAS
          have h66 := h65.below hB
          have hR6 := hR5.next hB
          have hW6 := hW5.trans (Below.mono hB hW5.size)
          have hpL : ¬ (p : Int) < L := by omega
          have HSL := hid (sumN_lt rr m)
          generalize sumN rr m = S at *
          clear hS h85 hA5 h65 hR5 hW5 hB hp hj hlt
          go_wp2_with (fail)
          refine (digits_q R6 16 d6 8 k2 W6 HK2L.out (by omega) (by decide) HK2B.out h66).mono ?_
          rintro e w7 ⟨B7, d7, rfl, hN7, hb7⟩
          obtain ⟨ss, hs1, hs2, hs3, hs4⟩ := pr_nl HK2B.out
          rw [HK2L.out] at hs2
          have hN7' := hN7.nums
          rw [← hs1] at hN7'
          have HSS := hid (And.intro hs2 (And.intro hs3 hs4))
          have h97 := h9.below hb7
          have hR7 := hR6.next hb7
          have hW7 := hW6.trans (Below.mono hb7 hW6.size)
          clear hs1 hs2 hs3 hs4 hN7 h9 hR6 hW6 h66 hb7
          have hb14 := below_new w7 (.cells (ints .u8 (zeros 16)).toArray 33)
          have h14 := Arr.made w7 .u8 (zeros 16) 33
          have HI0 := hid (RI.start aa ss)
          have hlt7 := hR7.lt (by rw [zeros_len]; omega)
          have hw7 := hW7.size
          go_wp2
          obtain ⟨b14, hbe⟩ : ∃ b, b = w7.heap.size := ⟨_, rfl⟩
          rw [← hbe] at h14 hb14 hlt7 ⊢
          have HBE := hid hbe
          clear hbe
          generalize w7.alloc (.cells (ints .u8 (zeros 16)).toArray 33) = W9 at *
          go_loopw [15, 16] (fun v15 v16 wr => ∃ (k cy : Nat) (zs : List Int), k ≤ 8 ∧ v15 = .int .i64 (cy : Int) ∧ v16 = .int .i64 (k : Int) ∧ Hid (RI aa ss k zs cy) ∧ Arr wr b14 0 .u8 zs ∧ Below b14 w7 wr) (fun _ v16 _ => 8 - (intOf v16).toNat)
          case atStart => exact ⟨0, 0, zeros 16, by omega, rfl, rfl, HI0, h14, hb14⟩
          case round =>
            clear h14 hb14 HI0
            obtain ⟨k, cy, zs, hk, rfl, rfl, HI, h14, hB⟩ := hrel
            rename World => W8
            have hBw : Below w7.heap.size w7 W8 := by rw [← HBE.out]; exact hB
            by_cases hlt : k < 8
            · have hxa := nat_at (l := aa) (k := k) (by rw [HAS.out.1]; omega)
              have hya := nat_at (l := ss) (k := k) (by rw [HSS.out.1]; exact hlt)
              have hxd := getD_dig HAS.out.2.1 k
              have hyd := getD_dig HSS.out.2.1 k
              obtain ⟨g9, o9, rfl, _, c9⟩ := (h97.below hBw).num (by rw [nl_length, HAS.out.1]; omega)
              obtain ⟨g7, o7, rfl, _, c7⟩ := (hN7'.below hBw).num (by rw [nl_length, HSS.out.1]; omega)
              have cx := c9 k _ (nl_at (by rw [HAS.out.1]; omega))
              have cy0 := c7 k _ (nl_at (by rw [HSS.out.1]; exact hlt))
              have hcy := HI.out.2.2.1
              have HST := hid (fun t ht => HI.out.step (t := t) hlt hxa hya hxd hyd ht)
              obtain ⟨z, cz, fz, _⟩ := h14.spot (i := 2 * k) (by rw [HI.out.1]; omega)
              obtain ⟨z2, cz2, fz2, _⟩ := h14.spot (i := 2 * k + 1) (by rw [HI.out.1]; omega)
              rw [Nat.zero_add] at cz fz cz2 fz2
              clear c9 c7 hxa hya
              generalize aa.getD k 0 = x at *
              generalize ss.getD k 0 = y at *
              obtain ⟨t, ht⟩ : ∃ t, t = x + y + cy := ⟨_, rfl⟩
              have HN := hid (HST.out t ht)
              have w1' : IntKind.i64.wrap ((x : Int) + y) = (x : Int) + y := IntWalk.i64_in _ (by omega)
              have w2' : IntKind.i64.wrap ((x : Int) + y + cy) = (t : Int) := by rw [IntWalk.i64_in _ (by omega)]; omega
              have htl : t < 200000 := by omega
              have HT := hid (And.intro ht (And.intro hxd (And.intro hyd hcy)))
              clear ht hxd hyd hcy HST
              obtain ⟨p, hp⟩ : ∃ p, p = 2 * k := ⟨_, rfl⟩
              obtain ⟨q, hq⟩ : ∃ q, q = p + 1 := ⟨_, rfl⟩
              rw [← hp] at cz fz cz2 fz2 HN
              rw [← hq] at cz2 fz2 HN
              have hwp : IntKind.i64.wrap (2 * (k : Int)) = (p : Int) := by rw [IntWalk.i64_in _ (by omega)]; omega
              have hwq : IntKind.i64.wrap ((p : Int) + 1) = (q : Int) := by rw [IntWalk.i64_in _ (by omega)]; omega
              have k0 : (0 : Int) ≤ k := by omega
              have k8 : (k : Int) < 8 := by omega
              have k10 : (k : Int) < 10 := by omega
              have p0 : (0 : Int) ≤ p := by omega
              have p16 : (p : Int) < 16 := by omega
              have q0 : (0 : Int) ≤ q := by omega
              have q16 : (q : Int) < 16 := by omega
              have pq : p ≠ q := by omega
              have hwk : IntKind.i64.wrap ((k : Int) + 1) = (k : Int) + 1 := IntWalk.i64_in _ (by omega)
              have HPQ := hid (And.intro hp hq)
              clear hp hq
              have t1 : (t : Int) % 256 = ((t % 256 : Nat) : Int) := by omega
              have t2 : Int.tmod (t : Int) 256 = ((t % 256 : Nat) : Int) := by rw [Int.tmod_eq_emod_of_nonneg (by omega)]; omega
              have t3 : IntKind.u8.wrap ((t % 256 : Nat) : Int) = ((t % 256 : Nat) : Int) := IntWalk.u8_in _ (by omega)
              have u1 : (t : Int) / 256 = ((t / 256 : Nat) : Int) := by omega
              have u2 : Int.tdiv (t : Int) 256 = ((t / 256 : Nat) : Int) := by rw [Int.tdiv_eq_ediv_of_nonneg (by omega)]; omega
              have u3 : IntKind.i64.wrap ((t / 256 : Nat) : Int) = ((t / 256 : Nat) : Int) := IntWalk.i64_in _ (by omega)
              have u4 : ((t / 256 : Nat) : Int) % 256 = ((t / 256 % 256 : Nat) : Int) := by omega
              have u5' : Int.tmod ((t / 256 : Nat) : Int) 256 = ((t / 256 % 256 : Nat) : Int) := by rw [Int.tmod_eq_emod_of_nonneg (by omega)]; omega
              have u6 : IntKind.u8.wrap ((t / 256 % 256 : Nat) : Int) = ((t / 256 % 256 : Nat) : Int) := IntWalk.u8_in _ (by omega)
              have v1 : (t : Int) / 65536 = ((t / 65536 : Nat) : Int) := by omega
              have v2 : Int.tdiv (t : Int) 65536 = ((t / 65536 : Nat) : Int) := by rw [Int.tdiv_eq_ediv_of_nonneg (by omega)]; omega
              have v3 : IntKind.i64.wrap ((t / 65536 : Nat) : Int) = ((t / 65536 : Nat) : Int) := IntWalk.i64_in _ (by omega)
              generalize t / 256 % 256 = e1 at *
              generalize t / 256 = e2 at *
              generalize t % 256 = e0 at *
              generalize t / 65536 = e3 at *
              have HTL := hid htl
              clear htl
              go_wp2
              go_quiet (fail)
              replace h14 := h14.drewN nq
              replace hB := below_drewN hB nq
              replace cz : (W8.drewN nq).cell? _ = _ := cz
              replace fz : (W8.drewN nq).frozen? _ = _ := fz
              replace cz2 : (W8.drewN nq).cell? _ = _ := cz2
              replace fz2 : (W8.drewN nq).frozen? _ = _ := fz2
              clear cx cy0 w1' w2' hBw
              generalize W8.drewN nq = Wa at *
              have hD1 := (h14.set p (e0 : Int)).set q (e1 : Int)
              rw [Nat.zero_add, Nat.zero_add] at hD1
              go_wp2
              go_roundw
              case rel => exact ⟨k + 1, e3, _, by omega, rfl, by go_num, HN, hD1, (hB.setCell (by show b14 ≤ b14; omega) _).setCell (by show b14 ≤ b14; omega) _⟩
              case measure => simp [intOf]; omega
            · have e : k = 8 := by omega
              subst e
              have HE := hid (HI.out.end_ HAS.out HSS.out.1 HSS.out.2.2)
              rw [HE.out, HR.out] at h14
              have hR8 := hR7.next hBw
              have hW8 := hW7.trans (Below.mono hBw hW7.size)
              have hs1 : W8.there (w.heap.size + 1) 0 (ints .u8 r).toArray.size := hR8.room (by rw [zeros_len]; exact HRL.out)
              have hR9 := hR8.stored (l' := r) (by rw [zeros_len]; exact HRL.out)
              have hW9 := Below.setCells hW8 (g := w.heap.size + 1) (by omega) 0 (ints .u8 r).toArray.toList
              go_wp2_with (first
                | (with_reducible refine wpList_load_mid (op := ⟨some 109, .load 33 (.tmp 14), _, _, _, _⟩) rfl 33 (.tmp 14) rfl b14 0 rfl (ints .u8 r) _ (h14.range) Tryd.underlying33 rfl (l33 HRL.out) ?_)
                | (with_reducible refine wpList_store_mid (op := ⟨none, .store 33 (.tmp 4) (.tmp 109), _, _, _, _⟩) rfl 33 (.tmp 4) (.tmp 109) rfl (w.heap.size + 1) 0 (ints .u8 r).toArray rfl rfl hs1 (a33 HRL.out) (ints_all _ _) ?_))
              exact ret_rows rfl (w.heap.size + 1) 0 rfl (ints .u8 r) _ hR9.range Tryd.underlying33 rfl (l33 HRL.out) rfl ⟨rfl, hW9⟩
set_option maxRecDepth 50000 in
theorem rtag_any (key m : List Int) (A : Option Addr) (L c : Nat) (w : World) (hk : key.length = 32) (hkb : Byt key) (hl : m.length = L) (hn : L ≤ 1000) (hmb : Byt m) (hA : Nums w .u8 A m) :
    Calls Tryd.prog 24 #[.agg (ints .u8 key).toArray, .slice A L c] w fun e w' => e = .returned (.agg (ints .u8 (tagL key m)).toArray) ∧ Below w.heap.size w w' :=
  rtag_core key m (tagL key m) (key.take 16) (key.drop 16) (bn (clampL (key.take 16))) A L c w (hid hk) (hid hkb) (hid rfl) (hid rfl) (hid (by simp [hk])) (hid (by simp [hk])) (hid (hkb.take 16)) (hid (hkb.drop 16)) (hid rfl) hl hn (hid hmb) hA (hid rfl) (hid (lb_length _))
end Go.Proofs.YtpiamcgienkhaaaDoor
