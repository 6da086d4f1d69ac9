/- Texts of this proof, laid together: HSched, HStep. -/
import Derived.Test.YtpncohoonfahpaaGreatDoorArr
import Derived.Test.YtpncohoonfahpaaGreatDoorG2
import Derived.Laws.IdiomCopy
/- The schedule of a block. -/
namespace Go.Proofs.YtpncohoonfahpaaGreatDoor
open Go.RowKit
def hzeros (n : Nat) : List Int := List.replicate n 0
set_option maxRecDepth 50000 in
theorem Tryz.info249 : (Tryz.prog.info? 249).map (fun i => (i.zero, i.size)) = some (some (.agg (ints .u64 (hzeros 80)).toArray), 80) := by kernel_rfl

/-- What the schedule takes of the words 15 and 2 before. -/
def sg0 (x : Int) : Int := xr (xr (rot x 1) (rot x 8)) (x / 128)
def sg1 (x : Int) : Int := xr (xr (rot x 19) (rot x 61)) (x / 64)
/-- The next word. -/
def nxt (l : List Int) : Int := hplus (hplus (hplus (l.getD (l.length - 16) 0) (sg0 (l.getD (l.length - 15) 0))) (l.getD (l.length - 7) 0)) (sg1 (l.getD (l.length - 2) 0))
/-- So many words more. -/
def ext (l : List Int) : Nat → List Int
  | 0 => l
  | n + 1 => ext l n ++ [nxt (ext l n)]
set_option maxRecDepth 50000 in
theorem ext_length (l : List Int) (n : Nat) : (ext l n).length = l.length + n := by
  induction n with
  | zero => rfl
  | succ n ih => simp [ext, ih]; omega
def AllWd (l : List Int) : Prop := ∀ x ∈ l, Wd x
set_option maxRecDepth 50000 in
theorem AllWd.at_ {l : List Int} (h : AllWd l) {i : Nat} {x : Int} (hx : l[i]? = some x) : Wd x := h x (List.mem_of_getElem? hx)
set_option maxRecDepth 50000 in
theorem ext_wd (l : List Int) (h : AllWd l) (n : Nat) : AllWd (ext l n) := by
  induction n with
  | zero => exact h
  | succ n ih =>
    intro x hx
    simp only [ext, List.mem_append, List.mem_singleton] at hx
    rcases hx with hx | rfl
    · exact ih x hx
    · exact wd_wrap _
/-- The schedule of the bytes of a block. -/
def sch (bs : List Int) : List Int := ext (joinB true 8 bs) 64

/-- The first words of a row of eighty, hzeros behind. -/
def pad80 (l : List Int) : List Int := l ++ hzeros (80 - l.length)
set_option maxRecDepth 50000 in
theorem pad80_length (l : List Int) (h : l.length ≤ 80) : (pad80 l).length = 80 := by simp [pad80, hzeros]; omega
set_option maxRecDepth 50000 in
theorem pad80_at {l : List Int} {i : Nat} (h : i < l.length) : (pad80 l)[i]? = some (l.getD i 0) := by
  unfold pad80
  rw [List.getElem?_append_left h]; simp [h]
set_option maxRecDepth 50000 in
theorem pad80_set {l : List Int} (x : Int) (h : l.length < 80) : (pad80 l).set l.length x = pad80 (l ++ [x]) := by
  unfold pad80
  rw [List.set_append_right _ _ (Nat.le_refl _), Nat.sub_self, List.append_assoc]
  congr 1
  have e : 80 - l.length = (80 - (l ++ [x]).length) + 1 := by simp; omega
  rw [e]
  simp [hzeros, List.replicate_succ]
set_option maxRecDepth 50000 in
theorem pad80_over {l : List Int} (h : l.length = 16) : over (hzeros 80) 0 l = pad80 l := by
  have : (hzeros 80).drop (0 + l.length) = hzeros (80 - l.length) := by simp [hzeros, h]
  simp only [over, List.take_zero, List.nil_append, this, pad80]
set_option maxRecDepth 50000 in
theorem pad80_full {l : List Int} (h : l.length = 80) : pad80 l = l := by simp [pad80, hzeros, h]
set_option maxRecDepth 50000 in
theorem getD_wd {l : List Int} (h : AllWd l) (i : Nat) : Wd (l.getD i 0) := by
  rw [List.getD_eq_getElem?_getD]
  cases hx : l[i]? with
  | none => exact ⟨by simp, by simp⟩
  | some x => exact h.at_ hx

set_option maxRecDepth 4000 in
set_option maxHeartbeats 1000000 in
theorem sched_any (g o c : Nat) (bs : List Int) (w : World) (hl : bs.length = 128) (hby : HByt bs) (hwd : AllWd (joinB true 8 bs)) (hA : Nums w .u8 (some ⟨g, o, none⟩) bs) :
    Calls Tryz.prog 231 #[.slice (some ⟨g, o, none⟩) 128 c] w fun e w' => ∃ ys, e = .returned (.agg (ints .u64 ys).toArray) ∧ Hid (ys = sch bs) ∧ Hid (ys.length = 80) ∧ Below w.heap.size w w' := by
  obtain ⟨z42, s42⟩ := zero_of_info Tryz.info249
  have HL := hid hl
  have hg : g < w.heap.size := by obtain ⟨b, off, e, hlt, _⟩ := hA (by omega); injection e with e; injection e with e1; omega
  have HW := hid hwd
  clear hl hwd
  go_enter Tryz.func231, Tryz.ntmps231
  go_wp2_with (go_at_call 239; refine (words_n (some ⟨g, o, none⟩) c bs _ HL.out hby ((hA.below (below_new _ _)).below (below_new _ _))).mono ?_; rintro e w1 ⟨B, d, ys, rfl, HY, H16, hN, hb⟩)
  obtain ⟨b1, o1, rfl, hlt1, hc1⟩ := hN (by have := H16.out; omega)
  have hA1 : Arr w1 (w.heap.size + 1) 0 .u64 (hzeros 80) := by
    have h := Arr.made (w.alloc (.cells (ints .u64 (hzeros 80)).toArray 249)) .u64 (hzeros 80) 249
    simp only [World.size_alloc] at h
    exact h.below hb (by simp)
  have hA0 : Arr w1 w.heap.size 0 .u64 (hzeros 80) := ((Arr.made w .u64 (hzeros 80) 249).alloc _).below hb (by simp; omega)
  have hB1 : Below w.heap.size w w1 := ((below_new _ _).alloc (by simp) _).trans (hb.mono (by simp; omega))
  have hcp : (Builtin.copy_ #[86, 86] 3 #[.slice (some ⟨w.heap.size + 1, 0, none⟩) 80 80, .slice (some ⟨b1, o1, none⟩) 16 d]).run Tryz.prog w1 = .ok (.int .i64 16) (w1.setCells (w.heap.size + 1) 0 (ints .u64 ys)) := by
    have h := run_copy_cells (P := Tryz.prog) w1 86 86 3 89 (w.heap.size + 1) 0 80 80 ⟨b1, o1, none⟩ 16 d (ints .u64 ys) Tryz.underlying86 (by kernel_rfl) (by simp [H16.out]) ?_ ?_ ?_ (ints_one _ _)
    · rw [ints_length, H16.out] at h; exact h
    · intro j v hv
      simp only [ints, List.getElem?_map, Option.map_eq_some_iff] at hv
      obtain ⟨x, hx, rfl⟩ := hv
      have hj := (List.getElem?_eq_some_iff.1 hx).1
      have := hc1 j hj
      rw [Addr.add_mid, this]
      simp [List.getD, hx]
    · intro j hj; exact (hA1.there j (by rw [ints_length, H16.out] at hj; simp [hzeros]; omega)).1
    · intro j hj; exact (hA1.there j (by rw [ints_length, H16.out] at hj; simp [hzeros]; omega)).2
  have hA2 : Arr (w1.setCells (w.heap.size + 1) 0 (ints .u64 ys)) (w.heap.size + 1) 0 .u64 (pad80 (ext ys 0)) := by
    have h := hA1.over (j := 0) (ys := ys) (by simp [hzeros, H16.out])
    rw [pad80_over H16.out] at h
    exact h
  have hA3 : Arr (w1.setCells (w.heap.size + 1) 0 (ints .u64 ys)) w.heap.size 0 .u64 (hzeros 80) := hA0.past _ (.inl (by omega))
  have hB2 : Below w.heap.size w (w1.setCells (w.heap.size + 1) 0 (ints .u64 ys)) := Below.setCells hB1 (by omega) _ _
  clear hA1 hA0 hB1 hN hc1 hb hA hlt1
  generalize w1.setCells (w.heap.size + 1) 0 (ints .u64 ys) = w2 at *
  go_simp
  go_wp2
  go_loopw [6] (fun i wr => ∃ k : Nat, k ≤ 64 ∧ i = .int .i64 (k + 16) ∧ Below w.heap.size w wr ∧ Arr wr (w.heap.size + 1) 0 .u64 (pad80 (ext ys k)) ∧ Arr wr w.heap.size 0 .u64 (hzeros 80)) (fun i _ => 80 - (intOf i).toNat)
  case atStart => exact ⟨0, by omega, rfl, hB2, hA2, hA3⟩
  case round =>
    clear hB2 hA2 hA3
    obtain ⟨k, hk, rfl, hb, hA, hR⟩ := hrel
    have HYL := H16.out
    have hel : (ext ys k).length = 16 + k := by rw [ext_length, H16.out]
    by_cases hlt : k < 64
    · obtain ⟨L, hL⟩ : ∃ L, L = ext ys k := ⟨_, rfl⟩
      have hLw : AllWd L := by rw [hL]; exact ext_wd ys (by rw [HY.out]; exact HW.out) k
      rw [← hL] at hel hA
      have c15 := hA.at_ (i := k + 1) (pad80_at (by omega))
      have c2 := hA.at_ (i := k + 14) (pad80_at (by omega))
      have c16 := hA.at_ (i := k) (pad80_at (by omega))
      have c7 := hA.at_ (i := k + 9) (pad80_at (by omega))
      have w15 := hid (getD_wd hLw (k + 1))
      have w2 := hid (getD_wd hLw (k + 14))
      have hn : nxt L = hplus (hplus (hplus (L.getD k 0) (sg0 (L.getD (k + 1) 0))) (L.getD (k + 9) 0)) (sg1 (L.getD (k + 14) 0)) := by
        unfold nxt
        rw [hel, show 16 + k - 16 = k by omega, show 16 + k - 15 = k + 1 by omega, show 16 + k - 7 = k + 9 by omega, show 16 + k - 2 = k + 14 by omega]
      have HN := hid hn
      have HLx := hid hL
      have HEL := hid hel
      have z15 := w15.out.1
      have z2 := w2.out.1
      generalize L.getD (k + 1) 0 = x15 at *
      generalize L.getD (k + 14) 0 = x2 at *
      generalize L.getD k 0 = x16 at *
      generalize L.getD (k + 9) 0 = x7 at *
      clear hn hL hel HYL
      simp only [Nat.zero_add] at c15 c2 c16 c7
      have s15 : IntKind.i64.wrap ((k : Int) + 16 - 15) = (k : Int) + 1 := by rw [IntWalk.i64_in _ (by omega)]; omega
      have s2 : IntKind.i64.wrap ((k : Int) + 16 - 2) = (k : Int) + 14 := by rw [IntWalk.i64_in _ (by omega)]; omega
      go_wp2
      go_quiet (fail)
      go_wp2_with (go_at_call 240; (first | (with_reducible refine (right_1 x15 _ w15).mono ?_) | (with_reducible refine (right_8 x15 _ w15).mono ?_) | (with_reducible refine (right_19 x2 _ w2).mono ?_) | (with_reducible refine (right_61 x2 _ w2).mono ?_)); rintro e w' ⟨rfl, rfl⟩)
      have s16 : IntKind.i64.wrap (k : Int) = (k : Int) := IntWalk.i64_in _ (by omega)
      have s7 : IntKind.i64.wrap ((k : Int) + 16 - 7) = (k : Int) + 9 := by rw [IntWalk.i64_in _ (by omega)]; omega
      obtain ⟨y, hy, hyf, _⟩ := hA.spot (i := k + 16) (by rw [pad80_length _ (by have := HEL.out; omega)]; omega)
      rw [Nat.zero_add] at hy hyf
      replace hA := hA.drewN nq
      replace hR := hR.drewN nq
      replace hb := below_drewN hb nq
      replace c16 : (wr.drewN nq).cell? _ = _ := c16
      replace c7 : (wr.drewN nq).cell? _ = _ := c7
      replace hy : (wr.drewN nq).cell? _ = _ := hy
      replace hyf : (wr.drewN nq).frozen? _ = _ := hyf
      clear c15 c2
      generalize wr.drewN nq = wx at *
      have b1 : (0 : Int) ≤ k := by omega
      have b2 : (k : Int) < 80 := by omega
      have b3 : (0 : Int) ≤ (k : Int) + 9 := by omega
      have b4 : (k : Int) + 9 < 80 := by omega
      have b5 : (0 : Int) ≤ (k : Int) + 16 := by omega
      have b6 : ((k : Int) + 9).toNat = k + 9 := by omega
      have b7 : ((k : Int) + 16).toNat = k + 16 := by omega
      go_still_tail 15, (by kernel_rfl)
      change wpList _ _ _ _ _ wx.drew
      replace hA := hA.drew
      replace hR := hR.drew
      replace hb := hb.drew
      replace hy : wx.drew.cell? _ = _ := hy
      replace hyf : wx.drew.frozen? _ = _ := hyf
      clear c16 c7
      generalize wx.drew = wz at *
      go_wp2
      go_roundw
      case rel =>
        have h := hA.set L.length (nxt L)
        rw [pad80_set _ (by have := HEL.out; omega)] at h
        have e : L.length = k + 16 := by have := HEL.out; omega
        have e2 : L ++ [nxt L] = ext ys (k + 1) := by rw [HLx.out]; rfl
        rw [e, e2, Nat.zero_add] at h
        refine ⟨k + 1, by omega, by go_num, hb.setCell (by simp) _, ?_, hR.apart _ (.inl (by simp))⟩
        rw [HN.out] at h
        exact h
      case measure => simp [intOf]; omega
    · have e : k = 64 := by omega
      subst e
      obtain ⟨F, hF⟩ : ∃ F, F = ext ys 64 := ⟨_, rfl⟩
      rw [← hF, pad80_full (by rw [hF]; omega)] at hA
      have hF80 : F.length = 80 := by rw [hF]; omega
      have hrg := hA.range
      have hth : wr.there w.heap.size 0 (ints .u64 F).toArray.size := by have := hR.there; simpa [hzeros, hF80] using this
      have hsz : (Tryz.prog.info? 249).map (·.size) = some (ints .u64 F).length := by rw [s42, ints_length, hF80]
      have hsz2 : (Tryz.prog.info? 249).map (·.size) = some (ints .u64 F).toArray.size := by rw [s42]; simp [hF80]
      have hR2 := hR.all (ys := F) (by simp [hzeros, hF80])
      have hb2 := Below.setCells hb (Nat.le_refl _) 0 (ints .u64 F)
      have HF := hid hF
      have HF80 := hid hF80
      clear hF hF80 hA hR hel HYL
      go_wp2_with (first
        | (with_reducible refine wpList_load_mid (op := ⟨some 62, .load 249 (.tmp 3), _, _, _, _⟩) rfl 249 (.tmp 3) rfl (w.heap.size + 1) 0 rfl (ints .u64 F) _ hrg Tryz.underlying249 rfl hsz ?_)
        | (with_reducible refine wpList_store_mid (op := ⟨none, .store 249 (.tmp 2) (.tmp 62), _, _, _, _⟩) rfl 249 (.tmp 2) (.tmp 62) rfl w.heap.size 0 (ints .u64 F).toArray rfl rfl hth hsz2 (ints_all _ _) ?_))
      exact ret_rows rfl w.heap.size 0 rfl (ints .u64 F) _ hR2.range Tryz.underlying249 rfl hsz rfl ⟨F, rfl, by show _ = _; rw [HF.out, HY.out]; rfl, HF80, hb2⟩
end Go.Proofs.YtpncohoonfahpaaGreatDoor

/- The steps of the hash, as numbers. -/
namespace Go.Proofs.YtpncohoonfahpaaGreatDoor
open Go.RowKit

/-- The eight numbers. -/
structure HSt where
  a : Int
  b : Int
  c : Int
  d : Int
  e : Int
  f : Int
  g : Int
  h : Int
def KINDS : List Int := [4794697086780616226, 8158064640168781261, 13096744586834688815, 16840607885511220156, 4131703408338449720, 6480981068601479193, 10538285296894168987, 12329834152419229976, 15566598209576043074, 1334009975649890238, 2608012711638119052, 6128411473006802146, 8268148722764581231, 9286055187155687089, 11230858885718282805, 13951009754708518548, 16472876342353939154, 17275323862435702243, 1135362057144423861, 2597628984639134821, 3308224258029322869, 5365058923640841347, 6679025012923562964, 8573033837759648693, 10970295158949994411, 12119686244451234320, 12683024718118986047, 13788192230050041572, 14330467153632333762, 15395433587784984357, 489312712824947311, 1452737877330783856, 2861767655752347644, 3322285676063803686, 5560940570517711597, 5996557281743188959, 7280758554555802590, 8532644243296465576, 9350256976987008742, 10552545826968843579, 11727347734174303076, 12113106623233404929, 14000437183269869457, 14369950271660146224, 15101387698204529176, 15463397548674623760, 17586052441742319658, 1182934255886127544, 1847814050463011016, 2177327727835720531, 2830643537854262169, 3796741975233480872, 4115178125766777443, 5681478168544905931, 6601373596472566643, 7507060721942968483, 8399075790359081724, 8693463985226723168, 9568029438360202098, 10144078919501101548, 10430055236837252648, 11840083180663258601, 13761210420658862357, 14299343276471374635, 14566680578165727644, 15097957966210449927, 16922976911328602910, 17689382322260857208, 500013540394364858, 748580250866718886, 1242879168328830382, 1977374033974150939, 2944078676154940804, 3659926193048069267, 4368137639120453308, 4836135668995329356, 5532061633213252278, 6448918945643986474, 6902733635092675308, 7801388544844847127]
def FIRST : List Int := [7640891576956012808, 13503953896175478587, 4354685564936845355, 11912009170470909681, 5840696475078001361, 11170449401992604703, 2270897969802886507, 6620516959819538809]
/-- All bits turned. -/
def hinv (x : Int) : Int := 18446744073709551615 - x
set_option maxRecDepth 50000 in
theorem inv_law (x : Int) (h : Wd x) : bits .xor .u64 (if IntKind.u64.signed = true then -1 else IntKind.u64.max) x = hinv x := by
  obtain ⟨X, rfl⟩ := Int.eq_ofNat_of_zero_le h.1
  have hx := h.2
  show IntKind.u64.wrap ((BitVec.ofInt 64 18446744073709551615 ^^^ BitVec.ofInt 64 (X : Int)).toNat : Int) = _
  have h1 : BitVec.ofInt 64 18446744073709551615 = BitVec.allOnes 64 := by decide
  rw [h1, BitVec.allOnes_xor, BitVec.toNat_not, ofInt_u64 X (by omega), IntKind.wrap_u64]
  unfold hinv
  omega
def ch (e f g : Int) : Int := xr (an e f) (an (hinv e) g)
def maj (a b c : Int) : Int := xr (xr (an a b) (an a c)) (an b c)
def T1 (s : HSt) (k x : Int) : Int := hplus (hplus (hplus (hplus s.h (tri s.e 14 18 41)) (ch s.e s.f s.g)) k) x
def T2 (s : HSt) : Int := hplus (tri s.a 28 34 39) (maj s.a s.b s.c)
def step (s : HSt) (k x : Int) : HSt := ⟨hplus (T1 s k x) (T2 s), s.a, s.b, s.c, hplus s.d (T1 s k x), s.e, s.f, s.g⟩
def rounds (ws : List Int) (s : HSt) : Nat → HSt
  | 0 => s
  | n + 1 => step (rounds ws s n) (KINDS.getD n 0) (ws.getD n 0)
def HSt.ok (s : HSt) : Prop := Wd s.a ∧ Wd s.b ∧ Wd s.c ∧ Wd s.d ∧ Wd s.e ∧ Wd s.f ∧ Wd s.g ∧ Wd s.h
set_option maxRecDepth 50000 in
theorem step_ok {s : HSt} (h : s.ok) (k x : Int) : (step s k x).ok := ⟨wd_wrap _, h.1, h.2.1, h.2.2.1, wd_wrap _, h.2.2.2.2.1, h.2.2.2.2.2.1, h.2.2.2.2.2.2.1⟩
set_option maxRecDepth 50000 in
theorem rounds_ok {s : HSt} (ws : List Int) (h : s.ok) (n : Nat) : (rounds ws s n).ok := by
  induction n with
  | zero => exact h
  | succ n ih => exact step_ok ih _ _
def HSt.list (s : HSt) : List Int := [s.a, s.b, s.c, s.d, s.e, s.f, s.g, s.h]
def add8 (s t : HSt) : HSt := ⟨hplus s.a t.a, hplus s.b t.b, hplus s.c t.c, hplus s.d t.d, hplus s.e t.e, hplus s.f t.f, hplus s.g t.g, hplus s.h t.h⟩
/-- The numbers after a block. -/
def comp (s : HSt) (bs : List Int) : HSt := add8 s (rounds (sch bs) s 80)
set_option maxRecDepth 50000 in
theorem comp_ok (s : HSt) (bs : List Int) : (comp s bs).ok := ⟨wd_wrap _, wd_wrap _, wd_wrap _, wd_wrap _, wd_wrap _, wd_wrap _, wd_wrap _, wd_wrap _⟩
set_option maxRecDepth 50000 in
theorem KINDS_length : KINDS.length = 80 := rfl

/-- What the two tables hold. -/
def TabsH (w : World) : Prop := (4 < w.heap.size ∧ 0 < w.heap.size) ∧ (∀ i x, KINDS[i]? = some x → w.cell? ⟨4, i, none⟩ = some (.int .u64 x)) ∧ (∀ i x, FIRST[i]? = some x → w.cell? ⟨0, i, none⟩ = some (.int .u64 x))
set_option maxRecDepth 50000 in
theorem TabsH.below {w w' : World} {B : Nat} (h : TabsH w) (hb : Below B w w') (hB : 4 < B ∧ 0 < B) : TabsH w' :=
  ⟨⟨Nat.lt_of_lt_of_le h.1.1 hb.size, Nat.lt_of_lt_of_le h.1.2 hb.size⟩, fun i x hi => (cell_same (hb.block 4 hB.1)).trans (h.2.1 i x hi), fun i x hi => (cell_same (hb.block 0 hB.2)).trans (h.2.2 i x hi)⟩
set_option maxRecDepth 50000 in
theorem TabsH.drew {w : World} (h : TabsH w) : TabsH w.drew := h
set_option maxRecDepth 50000 in
theorem TabsH.drewN {w : World} (h : TabsH w) (n : Nat) : TabsH (w.drewN n) := h
set_option maxRecDepth 50000 in
theorem TabsH.next {w w' : World} (h : TabsH w) (hb : Below w.heap.size w w') : TabsH w' := h.below hb h.1
set_option maxRecDepth 50000 in
theorem TabsH.only {w w' : World} {b : Nat} (h : TabsH w) (hb : Only b w w') (h2 : 4 < b ∧ 0 < b) : TabsH w' :=
  ⟨⟨Nat.lt_of_lt_of_le h.1.1 hb.size, Nat.lt_of_lt_of_le h.1.2 hb.size⟩, fun i x hi => (cell_same (hb.block 4 h.1.1 (by omega))).trans (h.2.1 i x hi), fun i x hi => (cell_same (hb.block 0 h.1.2 (by omega))).trans (h.2.2 i x hi)⟩

/-- A hasher lies in block b. -/
structure Hsh (w : World) (b : Nat) (s : HSt) (blk : List Int) (fl : Nat) : Prop where
  ns : Arr w b 0 .u64 s.list
  bk : Arr w b 8 .u8 blk
  fc : w.cell? ⟨b, 136, none⟩ = some (.int .i64 fl)
  fz : w.frozen? ⟨b, 136, none⟩ = false
  ok : s.ok
  len : blk.length = 128
  byt : HByt blk
set_option maxRecDepth 50000 in
theorem Hsh.lt {w : World} {b : Nat} {s : HSt} {blk : List Int} {fl : Nat} (h : Hsh w b s blk fl) : b < w.heap.size := World.block_lt_of_cell? w _ h.fc
set_option maxRecDepth 50000 in
theorem Hsh.same {w w' : World} {b : Nat} {s : HSt} {blk : List Int} {fl : Nat} (h : Hsh w b s blk fl) (he : w'.heap[b]? = w.heap[b]?) : Hsh w' b s blk fl :=
  ⟨h.ns.same he, h.bk.same he, (cell_same he).trans h.fc, by have := h.fz; unfold World.frozen? at *; simp only [he]; exact this, h.ok, h.len, h.byt⟩
set_option maxRecDepth 50000 in
theorem Hsh.next {w w' : World} {b : Nat} {s : HSt} {blk : List Int} {fl : Nat} (h : Hsh w b s blk fl) (hb : Below w.heap.size w w') : Hsh w' b s blk fl := h.same (hb.block b h.lt)

set_option maxRecDepth 50000 in
/-- Behind a quiet region's draws. -/
theorem quiet_left {P : Program} {f : FuncId} {args : Array Value} {w : World} {n : Nat} {v : Value}
    (h : Calls P f args (w.drewN n) fun e w' => e = .returned v ∧ w.drewN n = w') : Calls P f args (w.drewN n) fun e w' => e = .returned v ∧ ∃ m, w' = w.drewN m :=
  h.mono fun _ _ ⟨he, hm⟩ => ⟨he, n, hm.symm⟩
end Go.Proofs.YtpncohoonfahpaaGreatDoor
