/- The steps of the hash, as numbers. -/
import Derived.Test.YtihipgojeikdkaaDoorHSched
namespace Go.Proofs.YtihipgojeikdkaaDoor
open Go.RowKit

/-- The eight numbers. -/
structure HSt where
  a : Int
  b : Int
  c : Int
  d : Int
  e : Int
  f : Int
  g : Int
  h : Int
def KINDS : List Int := [4794697086780616226, 8158064640168781261, 13096744586834688815, 16840607885511220156, 4131703408338449720, 6480981068601479193, 10538285296894168987, 12329834152419229976, 15566598209576043074, 1334009975649890238, 2608012711638119052, 6128411473006802146, 8268148722764581231, 9286055187155687089, 11230858885718282805, 13951009754708518548, 16472876342353939154, 17275323862435702243, 1135362057144423861, 2597628984639134821, 3308224258029322869, 5365058923640841347, 6679025012923562964, 8573033837759648693, 10970295158949994411, 12119686244451234320, 12683024718118986047, 13788192230050041572, 14330467153632333762, 15395433587784984357, 489312712824947311, 1452737877330783856, 2861767655752347644, 3322285676063803686, 5560940570517711597, 5996557281743188959, 7280758554555802590, 8532644243296465576, 9350256976987008742, 10552545826968843579, 11727347734174303076, 12113106623233404929, 14000437183269869457, 14369950271660146224, 15101387698204529176, 15463397548674623760, 17586052441742319658, 1182934255886127544, 1847814050463011016, 2177327727835720531, 2830643537854262169, 3796741975233480872, 4115178125766777443, 5681478168544905931, 6601373596472566643, 7507060721942968483, 8399075790359081724, 8693463985226723168, 9568029438360202098, 10144078919501101548, 10430055236837252648, 11840083180663258601, 13761210420658862357, 14299343276471374635, 14566680578165727644, 15097957966210449927, 16922976911328602910, 17689382322260857208, 500013540394364858, 748580250866718886, 1242879168328830382, 1977374033974150939, 2944078676154940804, 3659926193048069267, 4368137639120453308, 4836135668995329356, 5532061633213252278, 6448918945643986474, 6902733635092675308, 7801388544844847127]
def FIRST : List Int := [7640891576956012808, 13503953896175478587, 4354685564936845355, 11912009170470909681, 5840696475078001361, 11170449401992604703, 2270897969802886507, 6620516959819538809]
/-- All bits turned. -/
def hinv (x : Int) : Int := 18446744073709551615 - x
set_option maxRecDepth 50000 in
theorem inv_law (x : Int) (h : Wd x) : bits .xor .u64 (if IntKind.u64.signed = true then -1 else IntKind.u64.max) x = hinv x := by
  obtain ⟨X, rfl⟩ := Int.eq_ofNat_of_zero_le h.1
  have hx := h.2
  show IntKind.u64.wrap ((BitVec.ofInt 64 18446744073709551615 ^^^ BitVec.ofInt 64 (X : Int)).toNat : Int) = _
  have h1 : BitVec.ofInt 64 18446744073709551615 = BitVec.allOnes 64 := by decide
  rw [h1, BitVec.allOnes_xor, BitVec.toNat_not, ofInt_u64 X (by omega), IntKind.wrap_u64]
  unfold hinv
  omega
def ch (e f g : Int) : Int := xr (an e f) (an (hinv e) g)
def maj (a b c : Int) : Int := xr (xr (an a b) (an a c)) (an b c)
def T1 (s : HSt) (k x : Int) : Int := hplus (hplus (hplus (hplus s.h (tri s.e 14 18 41)) (ch s.e s.f s.g)) k) x
def T2 (s : HSt) : Int := hplus (tri s.a 28 34 39) (maj s.a s.b s.c)
def step (s : HSt) (k x : Int) : HSt := ⟨hplus (T1 s k x) (T2 s), s.a, s.b, s.c, hplus s.d (T1 s k x), s.e, s.f, s.g⟩
def rounds (ws : List Int) (s : HSt) : Nat → HSt
  | 0 => s
  | n + 1 => step (rounds ws s n) (KINDS.getD n 0) (ws.getD n 0)
def HSt.ok (s : HSt) : Prop := Wd s.a ∧ Wd s.b ∧ Wd s.c ∧ Wd s.d ∧ Wd s.e ∧ Wd s.f ∧ Wd s.g ∧ Wd s.h
set_option maxRecDepth 50000 in
theorem step_ok {s : HSt} (h : s.ok) (k x : Int) : (step s k x).ok := ⟨wd_wrap _, h.1, h.2.1, h.2.2.1, wd_wrap _, h.2.2.2.2.1, h.2.2.2.2.2.1, h.2.2.2.2.2.2.1⟩
set_option maxRecDepth 50000 in
theorem rounds_ok {s : HSt} (ws : List Int) (h : s.ok) (n : Nat) : (rounds ws s n).ok := by
  induction n with
  | zero => exact h
  | succ n ih => exact step_ok ih _ _
def HSt.list (s : HSt) : List Int := [s.a, s.b, s.c, s.d, s.e, s.f, s.g, s.h]
def add8 (s t : HSt) : HSt := ⟨hplus s.a t.a, hplus s.b t.b, hplus s.c t.c, hplus s.d t.d, hplus s.e t.e, hplus s.f t.f, hplus s.g t.g, hplus s.h t.h⟩
/-- The numbers after a block. -/
def comp (s : HSt) (bs : List Int) : HSt := add8 s (rounds (sch bs) s 80)
set_option maxRecDepth 50000 in
theorem comp_ok (s : HSt) (bs : List Int) : (comp s bs).ok := ⟨wd_wrap _, wd_wrap _, wd_wrap _, wd_wrap _, wd_wrap _, wd_wrap _, wd_wrap _, wd_wrap _⟩
set_option maxRecDepth 50000 in
theorem KINDS_length : KINDS.length = 80 := rfl

/-- What the two tables hold. -/
def TabsH (w : World) : Prop := (1 < w.heap.size ∧ 0 < w.heap.size) ∧ (∀ i x, KINDS[i]? = some x → w.cell? ⟨1, i, none⟩ = some (.int .u64 x)) ∧ (∀ i x, FIRST[i]? = some x → w.cell? ⟨0, i, none⟩ = some (.int .u64 x))
set_option maxRecDepth 50000 in
theorem TabsH.below {w w' : World} {B : Nat} (h : TabsH w) (hb : Below B w w') (hB : 1 < B ∧ 0 < B) : TabsH w' :=
  ⟨⟨Nat.lt_of_lt_of_le h.1.1 hb.size, Nat.lt_of_lt_of_le h.1.2 hb.size⟩, fun i x hi => (cell_same (hb.block 1 hB.1)).trans (h.2.1 i x hi), fun i x hi => (cell_same (hb.block 0 hB.2)).trans (h.2.2 i x hi)⟩
set_option maxRecDepth 50000 in
theorem TabsH.drew {w : World} (h : TabsH w) : TabsH w.drew := h
set_option maxRecDepth 50000 in
theorem TabsH.drewN {w : World} (h : TabsH w) (n : Nat) : TabsH (w.drewN n) := h
set_option maxRecDepth 50000 in
theorem TabsH.next {w w' : World} (h : TabsH w) (hb : Below w.heap.size w w') : TabsH w' := h.below hb h.1
set_option maxRecDepth 50000 in
theorem TabsH.only {w w' : World} {b : Nat} (h : TabsH w) (hb : Only b w w') (h2 : 1 < b ∧ 0 < b) : TabsH w' :=
  ⟨⟨Nat.lt_of_lt_of_le h.1.1 hb.size, Nat.lt_of_lt_of_le h.1.2 hb.size⟩, fun i x hi => (cell_same (hb.block 1 h.1.1 (by omega))).trans (h.2.1 i x hi), fun i x hi => (cell_same (hb.block 0 h.1.2 (by omega))).trans (h.2.2 i x hi)⟩

/-- A hasher lies in block b. -/
structure Hsh (w : World) (b : Nat) (s : HSt) (blk : List Int) (fl : Nat) : Prop where
  ns : Arr w b 0 .u64 s.list
  bk : Arr w b 8 .u8 blk
  fc : w.cell? ⟨b, 136, none⟩ = some (.int .i64 fl)
  fz : w.frozen? ⟨b, 136, none⟩ = false
  ok : s.ok
  len : blk.length = 128
  byt : HByt blk
set_option maxRecDepth 50000 in
theorem Hsh.lt {w : World} {b : Nat} {s : HSt} {blk : List Int} {fl : Nat} (h : Hsh w b s blk fl) : b < w.heap.size := World.block_lt_of_cell? w _ h.fc
set_option maxRecDepth 50000 in
theorem Hsh.same {w w' : World} {b : Nat} {s : HSt} {blk : List Int} {fl : Nat} (h : Hsh w b s blk fl) (he : w'.heap[b]? = w.heap[b]?) : Hsh w' b s blk fl :=
  ⟨h.ns.same he, h.bk.same he, (cell_same he).trans h.fc, by have := h.fz; unfold World.frozen? at *; simp only [he]; exact this, h.ok, h.len, h.byt⟩
set_option maxRecDepth 50000 in
theorem Hsh.next {w w' : World} {b : Nat} {s : HSt} {blk : List Int} {fl : Nat} (h : Hsh w b s blk fl) (hb : Below w.heap.size w w') : Hsh w' b s blk fl := h.same (hb.block b h.lt)

set_option maxRecDepth 50000 in
/-- Behind a quiet region's draws. -/
theorem quiet_left {P : Program} {f : FuncId} {args : Array Value} {w : World} {n : Nat} {v : Value}
    (h : Calls P f args (w.drewN n) fun e w' => e = .returned v ∧ w.drewN n = w') : Calls P f args (w.drewN n) fun e w' => e = .returned v ∧ ∃ m, w' = w.drewN m :=
  h.mono fun _ _ ⟨he, hm⟩ => ⟨he, n, hm.symm⟩
end Go.Proofs.YtihipgojeikdkaaDoor
