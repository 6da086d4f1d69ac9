/- TermPuts: the law's walk. -/
import Derived.Test.YtechhbljjnffaaaTOne
import Derived.Test.YtechhbljjnffaaaTLawB
namespace Go.Proofs.Ytechhbljjnffaaa
open Go Go.RowKit Go.Maps
attribute [local go_sem] Oper.semAt_some

set_option maxRecDepth 50000 in
set_option maxHeartbeats 2000000 in
theorem puts_any (n c : Nat) (A : Option Addr) (ds : List DoV) (w : World) (hn : ds.length = n) (hn47 : n ≤ 9223372036854775807) (hA : DoRow w.heap.size w A ds) :
    Calls Try.prog 3 #[.slice A n c] w fun e w' => e = .returned (.bool true) ∧ Below w.heap.size w w' := by
  obtain ⟨W1, hW1⟩ : ∃ W, w.alloc (.cells #[.bool false] 4) = W := ⟨_, rfl⟩
  have hb1 : Below w.heap.size w W1 := by rw [← hW1]; exact below_new w _
  have hB1 : Blk W1 w.heap.size 4 [.bool false] := by rw [← hW1]; exact Blk.new w 4 [.bool false]
  obtain ⟨fb, hfb⟩ : ∃ b, decide ((∀ d ∈ ds, d.x.length ≤ 100) ∧ n ≤ 30) = b := ⟨_, rfl⟩
  have HF : Hid (fb = decide ((∀ d ∈ ds, d.x.length ≤ 100) ∧ n ≤ 30)) := hid hfb.symm
  clear hfb
  refine (callsIn_wide (n := 5)).1 (callsIn_of_wp_marks Try.func3 rfl trivial ?_)
  simp only [Try.ntmps3, List.size_toArray, List.length_cons, List.length_nil, Nat.reduceAdd, Nat.reduceSub, Array.replicate_succ, Array.replicate_zero, List.push_toArray, List.append_toArray, List.nil_append, List.cons_append]
  refine wpIn_wide.2 ?_
  cases fb with
  | false =>
    have c2 : ∀ ww, Below W1.heap.size W1 ww → ww.cell? ⟨w.heap.size, 0, none⟩ = some (.bool false) := fun ww h => (hB1.next h).cell (i := 0) rfl
    have f2 : ∀ ww, Below W1.heap.size W1 ww → ww.frozen? ⟨w.heap.size, 0, none⟩ = false := fun ww h => (hB1.next h).free 0
    go_wp2_with (first
      | (go_at_call 5; refine (awake_any _).mono ?_; rintro e w2 ⟨rfl, hb2⟩)
      | (go_at_call 6; refine (few_any w.heap.size n c A ds false _ hn hn47 (hA.next (hb1.trans (Below.mono hb2 hb1.size))) (Nat.le_trans hb1.size hb2.size) HF).mono ?_; rintro e w3 ⟨rfl, hb3⟩; have c3 := c2 _ (hb2.trans (Below.mono hb3 hb2.size)); have f3 := f2 _ (hb2.trans (Below.mono hb3 hb2.size))))
    have hBf : Blk (w3.setCell ⟨w.heap.size, 0, none⟩ (.bool true)) w.heap.size 4 [.bool true] := ((hB1.next (hb2.trans (Below.mono hb3 hb2.size))).set 0 (.bool true))
    refine ⟨_, results_cell1 rfl _ _ w.heap.size 0 rfl (.bool true) _ (hBf.cell (i := 0) rfl) Try.underlying4 rfl, rfl, ?_⟩
    exact (hb1.trans ((Below.mono hb2 hb1.size).trans (Below.mono hb3 (Nat.le_trans hb1.size hb2.size)))).setCell (Nat.le_refl _) _
  | true =>
    obtain ⟨hx100, hn30⟩ := of_decide_eq_true HF.out.symm
    have hn2 : (n : Int) ≤ 30 := by omega
    go_upto_region 6 with (first
      | (go_at_call 5; refine (awake_any _).mono ?_; rintro e w2 ⟨rfl, hb2⟩)
      | (go_at_call 6; refine (few_any w.heap.size n c A ds true _ hn hn47 (hA.next (hb1.trans (Below.mono hb2 hb1.size))) (Nat.le_trans hb1.size hb2.size) HF).mono ?_; rintro e w3 ⟨rfl, hb3⟩)
      | (go_at_call 7; refine (new_cs _).mono ?_; rintro e w4 ⟨rfl, hb4, hC4⟩))
    obtain ⟨W5, hW5⟩ : ∃ W, w4.alloc (.cells #[.slice none 0 0, .slice none 0 0] 31) = W := ⟨_, rfl⟩
    obtain ⟨W6, hW6⟩ : ∃ W, W5.alloc (.cells #[.pointer (some ⟨w4.heap.size, 0, none⟩)] 27) = W := ⟨_, rfl⟩
    rw [hW5, hW6]
    obtain ⟨p, q, hp, hq, hI⟩ : ∃ p q, w3.heap.size + 2 = p ∧ w4.heap.size = q ∧ PutsI w.heap.size p q 0 [] [] w W6 := by
      have hb5 : Below w4.heap.size w4 W5 := by rw [← hW5]; exact below_new w4 _
      have hb6 : Below W5.heap.size W5 W6 := by rw [← hW6]; exact below_new W5 _
      have hB5 : Blk W5 w4.heap.size 31 [.slice none 0 0, .slice none 0 0] := by rw [← hW5]; exact Blk.new w4 31 [.slice none 0 0, .slice none 0 0]
      have z5 : W5.heap.size = w4.heap.size + 1 := by rw [← hW5]; simp
      have hB6 : Blk W6 (w4.heap.size + 1) 27 [.pointer (some ⟨w4.heap.size, 0, none⟩)] := by rw [← z5, ← hW6]; exact Blk.new W5 27 [.pointer (some ⟨w4.heap.size, 0, none⟩)]
      have h14 : Below W1.heap.size W1 w4 := (hb2.trans (Below.mono hb3 hb2.size)).trans (Below.mono hb4 (Nat.le_trans hb2.size hb3.size))
      have h46 : Below w4.heap.size w4 W6 := hb5.trans (Below.mono hb6 hb5.size)
      have h16 : Below W1.heap.size W1 W6 := h14.trans (Below.mono h46 h14.size)
      have l1 := hB1.lt
      have s4 : W1.heap.size ≤ w4.heap.size := h14.size
      have s3 : W1.heap.size ≤ w3.heap.size := Nat.le_trans hb2.size hb3.size
      refine ⟨_, _, rfl, rfl, Nat.le_refl _, Nat.le_refl _, ⟨_, _, hC4.next h46, (rnew (hB5.next hb6) (by omega) : RS w.heap.size _ W6 w4.heap.size [] []), fun b h1 h2 => ?_, fun b h1 => ⟨?_, ?_, ?_⟩, fun b h1 => ⟨?_, ?_, ?_⟩⟩, hB1.next h16, hB6, hb1.trans (Below.mono h16 hb1.size), by omega⟩
      · have e1 := h1.2; have e2 : b = w4.heap.size := h2; omega
      · have := h46.size; omega
      · have e1 := h1.1; omega
      · have e1 := h1.2; omega
      · have := hB6.lt; subst h1; omega
      · subst h1; omega
      · subst h1; omega
    rw [hp, hq]
    have HN := hid hn
    clear hW1 hW5 hW6 hp hq hb1 hB1 hb2 hb3 hb4 hC4 hn
    go_wp2
    go_loopw [29] (fun v wr => ∃ (k : Nat) (L : List T3) (X : List (List Int)), k ≤ n ∧ v = .int .i64 k ∧ PutsI w.heap.size p q k L X w wr) (fun v _ => n - (intOf v).toNat)
    case atStart => exact ⟨0, [], [], Nat.zero_le _, rfl, hI⟩
    case round =>
      clear hI
      obtain ⟨k, L, X, hk, rfl, hI⟩ := hrel
      by_cases hlt : k < n
      · obtain ⟨d, hd⟩ : ∃ d, ds[k]? = some d := ⟨ds[k]'(by rw [HN.out]; exact hlt), by simp [HN.out, hlt]⟩
        have hA1 := hA.next hI.bel
        obtain ⟨⟨g, o, rfl, hg, hr⟩, hdt, hdn, hdx, hdA⟩ := hA1 k d hd
        have hx2 := hx100 d (List.mem_of_getElem? hd)
        have r0 := hr 0 _ rfl
        have r1 := hr 1 _ rfl
        have r2 := hr 2 _ rfl
        have r3 := hr 3 _ rfl
        have r4 := hr 4 _ rfl
        have r5 := hr 5 _ rfl
        simp only [Nat.add_zero] at r0
        obtain ⟨W7, hW7, hB7, hb7⟩ := do_world d wr
        have hkn : (k : Int) < n := by omega
        have hk0 : (0 : Int) ≤ k := by omega
        have hk1 : k + 1 ≤ n := by omega
        have hI7 := hI.next hb7
        have b4 := hI7.b4.cell (i := 0) rfl
        have hRg : W7.rangeAt wr.heap.size 0 d.cells := fun j v hj => by rw [Nat.zero_add]; exact hB7.cell hj
        have HW7 := hid hW7
        have hB7l := hB7.lt
        have hk30 : k + 1 ≤ 30 := by omega
        clear hr hlt hk hW7 hd hA hB7
        go_upto_region 9 with (fail)
        rw [HW7.out]
        clear r0 r1 r2 r3 r4 r5 HW7
        refine region_head 3 171 [Is (Value.pointer (some ⟨p, 0, none⟩)), Is (Value.pointer (some ⟨q, 0, none⟩)), Is (Value.agg d.cells.toArray)] [33, 34, 35] (by kernel_rfl) (by kernel_rfl) (by kernel_rfl) (Nat.le_of_eq rfl) (grows_cons (Is.grows _) (grows_cons (Is.grows _) (grows_cons (Is.grows _) grows_nil)))
          ⟨(step_ex _ rfl (.inl rfl) rfl (fun a ww hw hf hd => by
         have h3 : a.eval (.tmp 3) = Value.pointer (some ⟨p, 0, none⟩) := ((knows_out 3 (by kernel_rfl) rfl) : Knows _ _ _ _ _ _ 0 _ _) a ww hw hf hd
         revert h3
         generalize a.eval = ev
         intro h3
         unfold execOp
         simp only [h3]
         go_simp)),
           (step_ex _ rfl (.inl rfl) rfl (fun a ww hw hf hd => by
         have h4 : a.eval (.tmp 4) = Value.pointer (some ⟨(q + 1), 0, none⟩) := ((knows_out 4 (by kernel_rfl) rfl) : Knows _ _ _ _ _ _ 1 _ _) a ww hw hf hd
         have f0 : ww.cell? ⟨(q + 1), 0, none⟩ = some (Value.pointer (some ⟨q, 0, none⟩)) := cellB b4 hw
         revert h4
         generalize a.eval = ev
         intro h4
         unfold execOp
         simp only [h4]
         go_simp)),
           (step_ldV rfl (.inl rfl) (fun _ hw => rng_next hRg hw) rfl Try.underlying36 rfl infDo rfl (knows_out 6 (by kernel_rfl) rfl)), trivial⟩ ?_
        intro val W2 hw hS
        have e33 : val 33 = Value.pointer (some ⟨p, 0, none⟩) := hS 0 33 (by decide) rfl
        have e34 : val 34 = Value.pointer (some ⟨q, 0, none⟩) := hS 1 34 (by decide) rfl
        have e35 : val 35 = Value.agg d.cells.toArray := hS 2 35 (by decide) rfl
        simp only [putVals, List.foldl_cons, List.foldl_nil, Act.put, List.setIfInBounds_toArray, List.set_cons_succ, List.set_cons_zero, e33, e34, e35]
        clear e33 e34 e35 hS
        have hI8 := hI7.next hw
        refine any_event 3 171 (by kernel_rfl) _ rfl rfl ?_
        refine evt_call3 rfl cxT8 rfl rfl rfl ?_
        refine (one_any d hI8.both hdt hdx hx2 (hdA.stay (Below.mono (hb7.trans (Below.mono (show Below W7.heap.size W7 W2 from hw) hb7.size)) (Nat.le_of_lt hI.b2.lt))) (by have := hI8.nL; omega) (by have := hI8.nX; omega) (fun b hb => ?_) (fun b hb => Nat.le_of_lt hb.1)).mono ?_
        · have := hI8.b4.lt
          have := hI8.lt
          exact ⟨by omega, by omega⟩
        rintro e W8 ⟨rfl, L1, X1, hl1, hx1, hBo, hCg⟩
        refine ⟨_, rfl, ?_⟩
        have hJ := hI8.step hl1 hx1 hBo hCg
        clear hI hI7 hI8 b4 hRg hCg hBo hw hb7
        obtain ⟨AT, cT, AL, cL, c0, c1, r0, _, _⟩ := hJ.both.rows
        have b4 := hJ.b4.cell (i := 0) rfl
        dsimp only [Act.put, List.setIfInBounds_toArray, List.set_cons_succ, List.set_cons_zero]
        refine any_from 4 14 171 [Is (Value.pointer (some ⟨p, 0, none⟩)), Is (Value.pointer (some ⟨q, 0, none⟩)), Is (Value.agg d.cells.toArray), Is (Value.bool true), Is (Value.bool false), Is (Value.bool false), Is (Value.pointer (some ⟨p, 0, none⟩)), Is (Value.int .i64 (L1.length : Nat)), Is (Value.pointer (some ⟨q, 0, none⟩)), Is (Value.pointer (some ⟨q, 0, none⟩)), Is (Value.pointer (some ⟨q, 0, none⟩)), Is (Value.slice AL L1.length cL), Is (Value.int .i64 (L1.length : Nat)), Is (Value.bool false)] [33, 34, 35, 36, 37, 38, 39, 40, 41, 42, 43, 44, 45, 46] (by kernel_rfl) (by decide) (by kernel_rfl) (Nat.le_of_eq rfl) (grows_cons (Is.grows _) (grows_cons (Is.grows _) (grows_cons (Is.grows _) (grows_cons (Is.grows _) (grows_cons (Is.grows _) (grows_cons (Is.grows _) (grows_cons (Is.grows _) (grows_cons (Is.grows _) (grows_cons (Is.grows _) (grows_cons (Is.grows _) (grows_cons (Is.grows _) (grows_cons (Is.grows _) (grows_cons (Is.grows _) (grows_cons (Is.grows _) grows_nil))))))))))))))
          (fun i d hi hd => by
            match i, hi with
            | 0, _ => (obtain rfl := Option.some.inj hd; exact rfl)
            | 1, _ => (obtain rfl := Option.some.inj hd; exact rfl)
            | 2, _ => (obtain rfl := Option.some.inj hd; exact rfl)
            | 3, _ => (obtain rfl := Option.some.inj hd; exact rfl)
            | i + 4, hi => exact absurd hi (by omega))
          ⟨(step_ex _ rfl (.inl rfl) rfl (fun a ww hw hf hd => by
         have h36 : a.eval (.tmp 36) = Value.bool true := ((knows_in 3 36 (by decide) (by kernel_rfl) rfl rfl) : Knows _ _ _ _ _ _ 4 _ _) a ww hw hf hd
         revert h36
         generalize a.eval = ev
         intro h36
         unfold execOp
         simp only [h36]
         go_simp)),
           (step_ex _ rfl (.inl rfl) rfl (fun a ww hw hf hd => by
         have h37 : a.eval (.tmp 37) = Value.bool false := ((knows_in 4 37 (by decide) (by kernel_rfl) rfl rfl) : Knows _ _ _ _ _ _ 5 _ _) a ww hw hf hd
         revert h37
         generalize a.eval = ev
         intro h37
         unfold execOp
         simp only [h37]
         go_simp)),
           (step_ex _ rfl (.inr ⟨5, false, 38, rfl, by decide, by kernel_rfl, rfl, fun _ _ h => h⟩) rfl (fun a ww hw hf hd => by
         have h3 : a.eval (.tmp 3) = Value.pointer (some ⟨p, 0, none⟩) := ((knows_out 3 (by kernel_rfl) rfl) : Knows _ _ _ _ _ _ 6 _ _) a ww hw hf hd
         revert h3
         generalize a.eval = ev
         intro h3
         unfold execOp
         simp only [h3]
         go_simp)),
           (step_cw rfl (.inr ⟨5, false, 38, rfl, by decide, by kernel_rfl, rfl, fun _ _ h => h⟩) rfl cxT9 rfl (fun aa ww hw hf hd => ⟨_, (one_arg (knows_in 6 39 (by decide) (by kernel_rfl) rfl rfl)) aa ww hw hf hd, calls_q (len_any p _ _ _ ww (cellB c0 hw) (cellB c1 hw))⟩)),
           (step_ex _ rfl (.inr ⟨5, false, 38, rfl, by decide, by kernel_rfl, rfl, fun _ _ h => h⟩) rfl (fun a ww hw hf hd => by
         have h4 : a.eval (.tmp 4) = Value.pointer (some ⟨(q + 1), 0, none⟩) := ((knows_out 4 (by kernel_rfl) rfl) : Knows _ _ _ _ _ _ 8 _ _) a ww hw hf hd
         have f0 : ww.cell? ⟨(q + 1), 0, none⟩ = some (Value.pointer (some ⟨q, 0, none⟩)) := cellB b4 hw
         revert h4
         generalize a.eval = ev
         intro h4
         unfold execOp
         simp only [h4]
         go_simp)),
           (step_ex _ rfl (.inr ⟨5, false, 38, rfl, by decide, by kernel_rfl, rfl, fun _ _ h => h⟩) rfl (fun a ww hw hf hd => by
         have h41 : a.eval (.tmp 41) = Value.pointer (some ⟨q, 0, none⟩) := ((knows_in 8 41 (by decide) (by kernel_rfl) rfl rfl) : Knows _ _ _ _ _ _ 9 _ _) a ww hw hf hd
         revert h41
         generalize a.eval = ev
         intro h41
         unfold execOp
         simp only [h41]
         go_simp)),
           (step_ex _ rfl (.inr ⟨5, false, 38, rfl, by decide, by kernel_rfl, rfl, fun _ _ h => h⟩) rfl (fun a ww hw hf hd => by
         have h42 : a.eval (.tmp 42) = Value.pointer (some ⟨q, 0, none⟩) := ((knows_in 9 42 (by decide) (by kernel_rfl) rfl rfl) : Knows _ _ _ _ _ _ 10 _ _) a ww hw hf hd
         revert h42
         generalize a.eval = ev
         intro h42
         unfold execOp
         simp only [h42]
         go_simp)),
           (step_ex _ rfl (.inr ⟨5, false, 38, rfl, by decide, by kernel_rfl, rfl, fun _ _ h => h⟩) rfl (fun a ww hw hf hd => by
         have h43 : a.eval (.tmp 43) = Value.pointer (some ⟨q, 0, none⟩) := ((knows_in 10 43 (by decide) (by kernel_rfl) rfl rfl) : Knows _ _ _ _ _ _ 11 _ _) a ww hw hf hd
         have f0 : ww.cell? ⟨q, 0, none⟩ = some (Value.slice AL L1.length cL) := cellB r0 hw
         revert h43
         generalize a.eval = ev
         intro h43
         unfold execOp
         simp only [h43]
         go_simp)),
           (step_ex _ rfl (.inr ⟨5, false, 38, rfl, by decide, by kernel_rfl, rfl, fun _ _ h => h⟩) rfl (fun a ww hw hf hd => by
         have h44 : a.eval (.tmp 44) = Value.slice AL L1.length cL := ((knows_in 11 44 (by decide) (by kernel_rfl) rfl rfl) : Knows _ _ _ _ _ _ 12 _ _) a ww hw hf hd
         revert h44
         generalize a.eval = ev
         intro h44
         unfold execOp
         simp only [h44]
         go_simp)),
           (step_ex _ rfl (.inr ⟨5, false, 38, rfl, by decide, by kernel_rfl, rfl, fun _ _ h => h⟩) rfl (fun a ww hw hf hd => by
         have h40 : a.eval (.tmp 40) = Value.int .i64 (L1.length : Nat) := ((knows_in 7 40 (by decide) (by kernel_rfl) rfl rfl) : Knows _ _ _ _ _ _ 13 _ _) a ww hw hf hd
         have h45 : a.eval (.tmp 45) = Value.int .i64 (L1.length : Nat) := ((knows_in 12 45 (by decide) (by kernel_rfl) rfl rfl) : Knows _ _ _ _ _ _ 13 _ _) a ww hw hf hd
         revert h40 h45
         generalize a.eval = ev
         intro h40 h45
         unfold execOp
         simp only [h40, h45]
         go_simp)), trivial⟩ ?_
        intro val W9 hw hS
        have e33 : val 33 = Value.pointer (some ⟨p, 0, none⟩) := hS 0 33 (by decide) rfl
        have e34 : val 34 = Value.pointer (some ⟨q, 0, none⟩) := hS 1 34 (by decide) rfl
        have e35 : val 35 = Value.agg d.cells.toArray := hS 2 35 (by decide) rfl
        have e36 : val 36 = Value.bool true := hS 3 36 (by decide) rfl
        have e37 : val 37 = Value.bool false := hS 4 37 (by decide) rfl
        have e38 : val 38 = Value.bool false := hS 5 38 (by decide) rfl
        have e39 : val 39 = Value.pointer (some ⟨p, 0, none⟩) := hS 6 39 (by decide) rfl
        have e40 : val 40 = Value.int .i64 (L1.length : Nat) := hS 7 40 (by decide) rfl
        have e41 : val 41 = Value.pointer (some ⟨q, 0, none⟩) := hS 8 41 (by decide) rfl
        have e42 : val 42 = Value.pointer (some ⟨q, 0, none⟩) := hS 9 42 (by decide) rfl
        have e43 : val 43 = Value.pointer (some ⟨q, 0, none⟩) := hS 10 43 (by decide) rfl
        have e44 : val 44 = Value.slice AL L1.length cL := hS 11 44 (by decide) rfl
        have e45 : val 45 = Value.int .i64 (L1.length : Nat) := hS 12 45 (by decide) rfl
        have e46 : val 46 = Value.bool false := hS 13 46 (by decide) rfl
        simp only [putVals, List.foldl_cons, List.foldl_nil, List.drop_succ_cons, List.drop_zero, Act.put, List.setIfInBounds_toArray, List.set_cons_succ, List.set_cons_zero, e33, e34, e35, e36, e37, e38, e39, e40, e41, e42, e43, e44, e45, e46]
        clear e33 e34 e35 e36 e37 e38 e39 e40 e41 e42 e43 e44 e45 e46 hS
        have hJ9 := hJ.next hw
        clear hJ hw c0 c1 r0 b4
        go_wp2
        go_roundw
        case rel => exact ⟨k + 1, L1, X1, hk1, by go_num, hJ9⟩
        case measure => simp [intOf]; omega
      · have hge : ¬ (k : Int) < n := by omega
        have e : k = n := by omega
        subst e
        have h30 : L.length ≤ 30 := Nat.le_trans hI.nL hn30
        have h30x : X.length ≤ 30 := Nat.le_trans hI.nX hn30
        clear hk hlt hx100 hA HF HN
        obtain ⟨AT, cT, c0, c1, hAT, hATb⟩ := hI.both.box
        obtain ⟨W2, hW2⟩ : ∃ W, wr.alloc (.cells #[.int .i64 0] 3) = W := ⟨_, rfl⟩
        have hbW2 : Below wr.heap.size wr W2 := by rw [← hW2]; exact below_new wr _
        have hB7 : Blk W2 wr.heap.size 3 [.int .i64 0] := by rw [← hW2]; exact Blk.new wr 3 [.int .i64 0]
        have d0 := cellB c0 hbW2
        have d1 := cellB c1 hbW2
        have HW2 := hid hW2
        clear hW2
        go_upto_region 13 with (fail)
        rw [HW2.out]
        refine (wpIn_wide (n := 5)).1 ?_
        gi_wp2_with (refine ⟨trivial, ?_⟩; gi_at_call 10; refine (callsIn_wide.2 (all_any p L.length cT AT _ d0 d1)).mono ?_; rintro e wc ⟨rfl, hBx, hbc⟩)
        refine (wpIn_wide (n := 5)).1 ?_
        gi_step
        refine withAct fun aa haa => ?_
        obtain ⟨t7, ht7⟩ : ∃ t, wr.heap.size = t := ⟨_, rfl⟩
        obtain ⟨bx, hbx⟩ : ∃ t, W2.heap.size = t := ⟨_, rfl⟩
        have hL40 : L.length ≤ 40 := by omega
        have h7c : Blk wc t7 3 [.int .i64 0] := by rw [← ht7]; exact hB7.next hbc
        have hwrc : Below wr.heap.size wr wc := hbW2.trans (Below.mono hbc hbW2.size)
        have hIc := hI.next hwrc
        have hAc := tcells_of (hAT.below hwrc)
        have hbxc := hBx.cell (i := 0) rfl
        rw [hbx] at haa hbxc
        rw [ht7] at haa
        have hATc : ∀ b, AT.map (·.block) = some b → b < t7 := fun b e => by rw [← ht7]; exact hATb b e
        have ht7l := h7c.lt
        have HC := hid hwrc
        have HT7 := hid ht7
        have hbot : Both w.heap.size (fun b => w.heap.size < b ∧ b ≠ q + 1) wr p q L X := hI.both
        have hBl : w.heap.size < t7 := by rw [← ht7]; exact hI.b2.lt
        have hq7 : q + 1 < t7 := by rw [← ht7]; exact hI.b4.lt
        have hbelr : Below w.heap.size w wr := hI.bel
        have HI := hid hI
        clear hB7 hbW2 hI c0 c1 hAT hATb HW2 d0 d1 hBx hbc hwrc ht7 hbx hIc
        refine wpIn_rangeFunc_ownH (F := Fence.wide) rfl (by omega) (gf := 23) (lb := #[.pointer (some ⟨bx, 0, none⟩)]) (by rw [haa]; rfl) trivial (enters_of Try.func23 (by kernel_rfl) rfl)
          (encs := encT L) (Kp := KpG (AT.map (·.block))) (S := fun xs => xs.length = L.length ∧ upTo xs) (Sp := upTo) (N := L.length) (w0 := wc)
          (fun l J Jx W hW hJ _ hY h0 => callsIn_wide.2 (all1_in 4 (by omega) l bx cT AT L J Jx W hL40 hJ hY (cellB hbxc hW) (hAc.next hW) h0))
          (fun h k => KpG.t h k) (fun W l o o' hl _ _ _ => KpG.b (n := t7) hATc W l o o' (by omega)) (Below.refl _ _) (fun _ => rfl)
          (fun pre W => upTo pre ∧ PutsR t7 pre.length wc W) (fun _ pre _ => ¬ upTo pre)
          (PutsR.own (Nat.le_refl _)) (fun _ => ownFrom_pure _ _) ⟨rfl, Chg.refl _ _, h7c, ht7l⟩
          (AxP aa wc L 51 52 8 9) (fun x a' => AxP.own x a') ?_ ?_ ?_ ?_
        · intro l pre x W K hI hK
          obtain ⟨W7, hW7, y0, y1, y2, hb7, hB7⟩ := term_world (L[x.val]'x.2) W
          have HW7 := hid hW7
          have HB7 := hid hB7
          clear hW7 hB7
          subst haa
          unfold encT tv
          gi_upto_region 15 with (fail)
          gi_wp2
          rw [HW7.out]
          exact hK _ _ (keeps_chg (Chg.of hb7 (fun _ => False)) (fun _ e => e.elim)) (fun b e => hb7.block b (by have := hATc b e; have := hI.2.chg.size; omega)) ⟨hI.1, hI.2.next hb7⟩ ⟨_, hI.2.chg.size, HB7.out, rfl⟩
        · rintro l pre ⟨i, hil⟩ a' W hl hrec ⟨hU, hR⟩ ⟨b, hb, hBk, rfl⟩ hN
          subst haa
          have hI := HI.out
          obtain ⟨t, htt⟩ : ∃ t, L[i]'hil = t := ⟨_, rfl⟩
          dsimp only at hBk ⊢
          rw [htt] at hBk ⊢
          simp only [List.setIfInBounds_toArray, List.set_cons_succ, List.set_cons_zero]
          have hbo := hbot.over HT7.out.symm HC.out hR.chg (Nat.le_of_lt hI.b2.lt)
          have hLi : L[i]? = some t := by rw [← htt]; simp [hil]
          obtain ⟨_, _, AL, cL, _, _, r0, _, hAL⟩ := hbo.rows
          obtain ⟨g, hALe, hg, hcell⟩ := hAL (by omega)
          obtain ⟨x0, x1, x2⟩ := hcell i t hLi
          have hrg : W.rangeAt g (i * 3) (tc t) := fun j v hj => by
            match j, hj with
            | 0, hj => simp [tc] at hj; subst hj; exact x0
            | 1, hj => simp [tc] at hj; subst hj; exact x1
            | 2, hj => simp [tc] at hj; subst hj; exact x2
            | n + 3, hj => simp [tc] at hj
          have b4 := ((hI.b4.next HC.out).chg hR.chg (by omega)).cell (i := 0) rfl
          have b2B := (hI.b2.next HC.out).chg hR.chg (by omega)
          have c7 := hR.b7.cell (i := 0) rfl
          obtain ⟨_, hCS⟩ := hbo.code
          obtain ⟨nx, DN, DI, hP⟩ := hCS.pure
          have hT := (hP.wf i t hLi).1
          have hTT : decide (t = t) = true := decide_eq_true rfl
          have hil2 : (i : Int) < L.length := by omega
          have hi0 : (0 : Int) ≤ i := by omega
          have hge : decide ((L.length : Int) ≤ (i : Int)) = false := decide_eq_false (by omega)
          clear x0 x1 x2 hcell hAL hg hP hCS hLi htt hrec hbo hbot HI
          by_cases hx : i = pre.length
          · rw [← hx] at c7
            have hrel : Hid (i = pre.length) := hid hx
            clear hx
            gi_upto_region 16 with (fail)
            refine region_round 22 171 (fun _ => false) [Is (Value.int .i64 i), Is (Value.int .i64 i), Is (Value.bool false), Is (Value.bool false), Is (Value.int .i64 i), Is (Value.pointer (some ⟨q, 0, none⟩)), Is (Value.pointer (some ⟨q, 0, none⟩)), Is (Value.pointer (some ⟨q, 0, none⟩)), Is (Value.slice AL L.length cL), Is (Value.int .i64 (L.length : Nat)), Is (Value.bool false), Is (Value.bool false), Is (Value.bool false), Is (Value.agg (tc t).toArray), Is (Value.pointer (some ⟨q, 0, none⟩)), Is (Value.pointer (some ⟨q, 0, none⟩)), Is (Value.pointer (some ⟨q, 0, none⟩)), Is (Value.slice AL L.length cL), Is (Value.int .i64 i), Is (Value.pointer (some ⟨g, i * 3, none⟩)), Is (Value.agg (tc t).toArray), Is (Value.bool false)] [53, 54, 55, 56, 57, 58, 59, 60, 61, 62, 63, 64, 65, 66, 67, 68, 69, 70, 71, 72, 73, 74] (by kernel_rfl) (by kernel_rfl) (by kernel_rfl) (Nat.le_of_eq rfl) rfl (fun h => by obtain ⟨_, _, h⟩ := h; exact h) (grows_cons (Is.grows _) (grows_cons (Is.grows _) (grows_cons (Is.grows _) (grows_cons (Is.grows _) (grows_cons (Is.grows _) (grows_cons (Is.grows _) (grows_cons (Is.grows _) (grows_cons (Is.grows _) (grows_cons (Is.grows _) (grows_cons (Is.grows _) (grows_cons (Is.grows _) (grows_cons (Is.grows _) (grows_cons (Is.grows _) (grows_cons (Is.grows _) (grows_cons (Is.grows _) (grows_cons (Is.grows _) (grows_cons (Is.grows _) (grows_cons (Is.grows _) (grows_cons (Is.grows _) (grows_cons (Is.grows _) (grows_cons (Is.grows _) (grows_cons (Is.grows _) grows_nil))))))))))))))))))))))
              ⟨(step_ex _ rfl (.inl rfl) rfl (fun a ww hw hf hd => by
             have h8 : a.eval (.tmp 8) = Value.int .i64 i := ((knows_out 8 (by kernel_rfl) rfl) : Knows _ _ _ _ _ _ 0 _ _) a ww hw hf hd
             revert h8
             generalize a.eval = ev
             intro h8
             unfold execOp
             simp only [h8]
             go_simp)),
               (step_ex _ rfl (.inl rfl) rfl (fun a ww hw hf hd => by
             have h7 : a.eval (.tmp 7) = Value.pointer (some ⟨t7, 0, none⟩) := ((knows_out 7 (by kernel_rfl) rfl) : Knows _ _ _ _ _ _ 1 _ _) a ww hw hf hd
             have f0 : ww.cell? ⟨t7, 0, none⟩ = some (Value.int .i64 i) := cellB c7 hw
             revert h7
             generalize a.eval = ev
             intro h7
             unfold execOp
             simp only [h7]
             go_simp)),
               (step_ex _ rfl (.inl rfl) rfl (fun a ww hw hf hd => by
             have h53 : a.eval (.tmp 53) = Value.int .i64 i := ((knows_in 0 53 (by decide) (by kernel_rfl) rfl rfl) : Knows _ _ _ _ _ _ 2 _ _) a ww hw hf hd
             have h54 : a.eval (.tmp 54) = Value.int .i64 i := ((knows_in 1 54 (by decide) (by kernel_rfl) rfl rfl) : Knows _ _ _ _ _ _ 2 _ _) a ww hw hf hd
             revert h53 h54
             generalize a.eval = ev
             intro h53 h54
             unfold execOp
             simp only [h53, h54]
             go_simp)),
               (step_ex _ rfl (.inl rfl) rfl (fun a ww hw hf hd => by
             have h55 : a.eval (.tmp 55) = Value.bool false := ((knows_in 2 55 (by decide) (by kernel_rfl) rfl rfl) : Knows _ _ _ _ _ _ 3 _ _) a ww hw hf hd
             revert h55
             generalize a.eval = ev
             intro h55
             unfold execOp
             simp only [h55]
             go_simp)),
               (step_ex _ rfl (.inr ⟨3, false, 56, rfl, by decide, by kernel_rfl, rfl, fun _ _ h => h⟩) rfl (fun a ww hw hf hd => by
             have h7 : a.eval (.tmp 7) = Value.pointer (some ⟨t7, 0, none⟩) := ((knows_out 7 (by kernel_rfl) rfl) : Knows _ _ _ _ _ _ 4 _ _) a ww hw hf hd
             have f0 : ww.cell? ⟨t7, 0, none⟩ = some (Value.int .i64 i) := cellB c7 hw
             revert h7
             generalize a.eval = ev
             intro h7
             unfold execOp
             simp only [h7]
             go_simp)),
               (step_ex _ rfl (.inr ⟨3, false, 56, rfl, by decide, by kernel_rfl, rfl, fun _ _ h => h⟩) rfl (fun a ww hw hf hd => by
             have h4 : a.eval (.tmp 4) = Value.pointer (some ⟨(q + 1), 0, none⟩) := ((knows_out 4 (by kernel_rfl) rfl) : Knows _ _ _ _ _ _ 5 _ _) a ww hw hf hd
             have f0 : ww.cell? ⟨(q + 1), 0, none⟩ = some (Value.pointer (some ⟨q, 0, none⟩)) := cellB b4 hw
             revert h4
             generalize a.eval = ev
             intro h4
             unfold execOp
             simp only [h4]
             go_simp)),
               (step_ex _ rfl (.inr ⟨3, false, 56, rfl, by decide, by kernel_rfl, rfl, fun _ _ h => h⟩) rfl (fun a ww hw hf hd => by
             have h58 : a.eval (.tmp 58) = Value.pointer (some ⟨q, 0, none⟩) := ((knows_in 5 58 (by decide) (by kernel_rfl) rfl rfl) : Knows _ _ _ _ _ _ 6 _ _) a ww hw hf hd
             revert h58
             generalize a.eval = ev
             intro h58
             unfold execOp
             simp only [h58]
             go_simp)),
               (step_ex _ rfl (.inr ⟨3, false, 56, rfl, by decide, by kernel_rfl, rfl, fun _ _ h => h⟩) rfl (fun a ww hw hf hd => by
             have h59 : a.eval (.tmp 59) = Value.pointer (some ⟨q, 0, none⟩) := ((knows_in 6 59 (by decide) (by kernel_rfl) rfl rfl) : Knows _ _ _ _ _ _ 7 _ _) a ww hw hf hd
             revert h59
             generalize a.eval = ev
             intro h59
             unfold execOp
             simp only [h59]
             go_simp)),
               (step_ex _ rfl (.inr ⟨3, false, 56, rfl, by decide, by kernel_rfl, rfl, fun _ _ h => h⟩) rfl (fun a ww hw hf hd => by
             have h60 : a.eval (.tmp 60) = Value.pointer (some ⟨q, 0, none⟩) := ((knows_in 7 60 (by decide) (by kernel_rfl) rfl rfl) : Knows _ _ _ _ _ _ 8 _ _) a ww hw hf hd
             have f0 : ww.cell? ⟨q, 0, none⟩ = some (Value.slice AL L.length cL) := cellB r0 hw
             revert h60
             generalize a.eval = ev
             intro h60
             unfold execOp
             simp only [h60]
             go_simp)),
               (step_ex _ rfl (.inr ⟨3, false, 56, rfl, by decide, by kernel_rfl, rfl, fun _ _ h => h⟩) rfl (fun a ww hw hf hd => by
             have h61 : a.eval (.tmp 61) = Value.slice AL L.length cL := ((knows_in 8 61 (by decide) (by kernel_rfl) rfl rfl) : Knows _ _ _ _ _ _ 9 _ _) a ww hw hf hd
             revert h61
             generalize a.eval = ev
             intro h61
             unfold execOp
             simp only [h61]
             go_simp)),
               (step_ex _ rfl (.inr ⟨3, false, 56, rfl, by decide, by kernel_rfl, rfl, fun _ _ h => h⟩) rfl (fun a ww hw hf hd => by
             have h57 : a.eval (.tmp 57) = Value.int .i64 i := ((knows_in 4 57 (by decide) (by kernel_rfl) rfl rfl) : Knows _ _ _ _ _ _ 10 _ _) a ww hw hf hd
             have h62 : a.eval (.tmp 62) = Value.int .i64 (L.length : Nat) := ((knows_in 9 62 (by decide) (by kernel_rfl) rfl rfl) : Knows _ _ _ _ _ _ 10 _ _) a ww hw hf hd
             have f0 := hge
             revert h57 h62
             generalize a.eval = ev
             intro h57 h62
             unfold execOp
             simp only [h57, h62]
             go_simp)),
               (step_ex _ rfl (.inl rfl) rfl (fun a ww hw hf hd => by
             have h56 : a.eval (.tmp 56) = Value.bool false := ((knows_in 3 56 (by decide) (by kernel_rfl) rfl rfl) : Knows _ _ _ _ _ _ 11 _ _) a ww hw hf hd
             have h63 : a.eval (.tmp 63) = Value.bool false := ((knows_in 10 63 (by decide) (by kernel_rfl) rfl rfl) : Knows _ _ _ _ _ _ 11 _ _) a ww hw hf hd
             have hc := ec a
             revert hc h56 h63
             generalize a.eval = ev
             intro hc h56 h63
             unfold execOp
             simp only [hc, h56, h63]
             go_simp)),
               (step_ex _ rfl (.inl rfl) rfl (fun a ww hw hf hd => by
             have h64 : a.eval (.tmp 64) = Value.bool false := ((knows_in 11 64 (by decide) (by kernel_rfl) rfl rfl) : Knows _ _ _ _ _ _ 12 _ _) a ww hw hf hd
             revert h64
             generalize a.eval = ev
             intro h64
             unfold execOp
             simp only [h64]
             go_simp)),
               (step_ldV rfl (.inr ⟨12, false, 65, rfl, by decide, by kernel_rfl, rfl, fun _ _ h => h⟩) (fun _ hw => (hBk.next hw).rw.range) rfl Try.underlying33 rfl (szV infT (tc_len _)) rfl (knows_out 9 (by kernel_rfl) rfl)),
               (step_ex _ rfl (.inr ⟨12, false, 65, rfl, by decide, by kernel_rfl, rfl, fun _ _ h => h⟩) rfl (fun a ww hw hf hd => by
             have h4 : a.eval (.tmp 4) = Value.pointer (some ⟨(q + 1), 0, none⟩) := ((knows_out 4 (by kernel_rfl) rfl) : Knows _ _ _ _ _ _ 14 _ _) a ww hw hf hd
             have f0 : ww.cell? ⟨(q + 1), 0, none⟩ = some (Value.pointer (some ⟨q, 0, none⟩)) := cellB b4 hw
             revert h4
             generalize a.eval = ev
             intro h4
             unfold execOp
             simp only [h4]
             go_simp)),
               (step_ex _ rfl (.inr ⟨12, false, 65, rfl, by decide, by kernel_rfl, rfl, fun _ _ h => h⟩) rfl (fun a ww hw hf hd => by
             have h67 : a.eval (.tmp 67) = Value.pointer (some ⟨q, 0, none⟩) := ((knows_in 14 67 (by decide) (by kernel_rfl) rfl rfl) : Knows _ _ _ _ _ _ 15 _ _) a ww hw hf hd
             revert h67
             generalize a.eval = ev
             intro h67
             unfold execOp
             simp only [h67]
             go_simp)),
               (step_ex _ rfl (.inr ⟨12, false, 65, rfl, by decide, by kernel_rfl, rfl, fun _ _ h => h⟩) rfl (fun a ww hw hf hd => by
             have h68 : a.eval (.tmp 68) = Value.pointer (some ⟨q, 0, none⟩) := ((knows_in 15 68 (by decide) (by kernel_rfl) rfl rfl) : Knows _ _ _ _ _ _ 16 _ _) a ww hw hf hd
             revert h68
             generalize a.eval = ev
             intro h68
             unfold execOp
             simp only [h68]
             go_simp)),
               (step_ex _ rfl (.inr ⟨12, false, 65, rfl, by decide, by kernel_rfl, rfl, fun _ _ h => h⟩) rfl (fun a ww hw hf hd => by
             have h69 : a.eval (.tmp 69) = Value.pointer (some ⟨q, 0, none⟩) := ((knows_in 16 69 (by decide) (by kernel_rfl) rfl rfl) : Knows _ _ _ _ _ _ 17 _ _) a ww hw hf hd
             have f0 : ww.cell? ⟨q, 0, none⟩ = some (Value.slice AL L.length cL) := cellB r0 hw
             revert h69
             generalize a.eval = ev
             intro h69
             unfold execOp
             simp only [h69]
             go_simp)),
               (step_ex _ rfl (.inr ⟨12, false, 65, rfl, by decide, by kernel_rfl, rfl, fun _ _ h => h⟩) rfl (fun a ww hw hf hd => by
             have h8 : a.eval (.tmp 8) = Value.int .i64 i := ((knows_out 8 (by kernel_rfl) rfl) : Knows _ _ _ _ _ _ 18 _ _) a ww hw hf hd
             revert h8
             generalize a.eval = ev
             intro h8
             unfold execOp
             simp only [h8]
             go_simp)),
               (step_ex _ rfl (.inr ⟨12, false, 65, rfl, by decide, by kernel_rfl, rfl, fun _ _ h => h⟩) rfl (fun a ww hw hf hd => by
             have h70 : a.eval (.tmp 70) = Value.slice AL L.length cL := ((knows_in 17 70 (by decide) (by kernel_rfl) rfl rfl) : Knows _ _ _ _ _ _ 19 _ _) a ww hw hf hd
             have h71 : a.eval (.tmp 71) = Value.int .i64 i := ((knows_in 18 71 (by decide) (by kernel_rfl) rfl rfl) : Knows _ _ _ _ _ _ 19 _ _) a ww hw hf hd
             have f0 := hil2
             have f1 := hi0
             have f2 := hALe
             revert h70 h71
             generalize a.eval = ev
             intro h70 h71
             unfold execOp
             simp only [h70, h71]
             go_simp)),
               (step_ldV rfl (.inr ⟨12, false, 65, rfl, by decide, by kernel_rfl, rfl, fun _ _ h => h⟩) (fun _ hw => rng_next hrg hw) rfl Try.underlying33 rfl (szV infT (tc_len _)) rfl (knows_in 19 72 (by decide) (by kernel_rfl) rfl rfl)),
               (step_ex (Value.bool false) rfl (.inr ⟨12, false, 65, rfl, by decide, by kernel_rfl, rfl, fun _ _ h => h⟩) rfl (fun a ww hw hf hd => exec_neT rfl (((knows_in 13 66 (by decide) (by kernel_rfl) rfl rfl) : Knows _ _ _ _ _ _ 21 _ (Value.agg (tc t).toArray)) a ww hw hf hd) (((knows_in 20 73 (by decide) (by kernel_rfl) rfl rfl) : Knows _ _ _ _ _ _ 21 _ (Value.agg (tc t).toArray)) a ww hw hf hd) hT hT hTT ww)), trivial⟩ ?_
            intro val W2 hw hS _ _
            have e53 : val 53 = Value.int .i64 i := hS 0 53 (by decide) rfl
            have e54 : val 54 = Value.int .i64 i := hS 1 54 (by decide) rfl
            have e55 : val 55 = Value.bool false := hS 2 55 (by decide) rfl
            have e56 : val 56 = Value.bool false := hS 3 56 (by decide) rfl
            have e57 : val 57 = Value.int .i64 i := hS 4 57 (by decide) rfl
            have e58 : val 58 = Value.pointer (some ⟨q, 0, none⟩) := hS 5 58 (by decide) rfl
            have e59 : val 59 = Value.pointer (some ⟨q, 0, none⟩) := hS 6 59 (by decide) rfl
            have e60 : val 60 = Value.pointer (some ⟨q, 0, none⟩) := hS 7 60 (by decide) rfl
            have e61 : val 61 = Value.slice AL L.length cL := hS 8 61 (by decide) rfl
            have e62 : val 62 = Value.int .i64 (L.length : Nat) := hS 9 62 (by decide) rfl
            have e63 : val 63 = Value.bool false := hS 10 63 (by decide) rfl
            have e64 : val 64 = Value.bool false := hS 11 64 (by decide) rfl
            have e65 : val 65 = Value.bool false := hS 12 65 (by decide) rfl
            have e66 : val 66 = Value.agg (tc t).toArray := hS 13 66 (by decide) rfl
            have e67 : val 67 = Value.pointer (some ⟨q, 0, none⟩) := hS 14 67 (by decide) rfl
            have e68 : val 68 = Value.pointer (some ⟨q, 0, none⟩) := hS 15 68 (by decide) rfl
            have e69 : val 69 = Value.pointer (some ⟨q, 0, none⟩) := hS 16 69 (by decide) rfl
            have e70 : val 70 = Value.slice AL L.length cL := hS 17 70 (by decide) rfl
            have e71 : val 71 = Value.int .i64 i := hS 18 71 (by decide) rfl
            have e72 : val 72 = Value.pointer (some ⟨g, i * 3, none⟩) := hS 19 72 (by decide) rfl
            have e73 : val 73 = Value.agg (tc t).toArray := hS 20 73 (by decide) rfl
            have e74 : val 74 = Value.bool false := hS 21 74 (by decide) rfl
            simp only [putVals, List.foldl_cons, List.foldl_nil, List.drop_succ_cons, List.drop_zero, Act.put, List.setIfInBounds_toArray, List.set_cons_succ, List.set_cons_zero, e53, e54, e55, e56, e57, e58, e59, e60, e61, e62, e63, e64, e65, e66, e67, e68, e69, e70, e71, e72, e73, e74]
            clear e53 e54 e55 e56 e57 e58 e59 e60 e61 e62 e63 e64 e65 e66 e67 e68 e69 e70 e71 e72 e73 e74 hS
            clear hrg r0 b4 c7 hge hALe
            have hR2 := hR.next (show Below W.heap.size W W2 from hw)
            have c72 := hR2.b7.cell (i := 0) rfl
            have f72 := hR2.b7.free 0
            have hRs := hR2.step
            rw [← hrel.out] at c72 hRs
            have hw1 : IntKind.i64.wrap ((i : Int) + 1) = ((i + 1 : Nat) : Int) := IntWalk.i64_in _ ⟨by omega, by omega⟩
            go_wp2
            gi_wp2
            refine ⟨keeps_chg (G := fun b => b = t7) ((Chg.of (show Below W.heap.size W W2 from hw) (fun b => b = t7)).setCell (p := ⟨t7, 0, none⟩) (.inl rfl) _) (fun b e => by have := hR.lt; omega), fun b e => ?_, upTo_add hU hrel.out, ?_⟩
            · have := hATc b e
              exact (Below.heap_setCell _ _ _ _ (by dsimp only; omega)).trans (hw.block b (by have := hR.chg.size; omega))
            · rw [List.length_append, ← hrel.out]; exact hRs
          · have hne : ¬ (i : Int) = (pre.length : Int) := by omega
            have HX := hid hx
            clear hx
            gi_upto_region 16 with (fail)
            refine region_round 22 171 (fun _ => false) [Is (Value.int .i64 i), Is (Value.int .i64 (pre.length : Nat)), Is (Value.bool true), Is (Value.bool true), Is (undef), Is (undef), Is (undef), Is (undef), Is (undef), Is (undef), Is (undef), Is (Value.bool true), Is (Value.bool true), Is (undef), Is (undef), Is (undef), Is (undef), Is (undef), Is (undef), Is (undef), Is (undef), Is (undef)] [53, 54, 55, 56, 57, 58, 59, 60, 61, 62, 63, 64, 65, 66, 67, 68, 69, 70, 71, 72, 73, 74] (by kernel_rfl) (by kernel_rfl) (by kernel_rfl) (Nat.le_of_eq rfl) rfl (fun h => by obtain ⟨_, _, h⟩ := h; exact h) (grows_cons (Is.grows _) (grows_cons (Is.grows _) (grows_cons (Is.grows _) (grows_cons (Is.grows _) (grows_cons (Is.grows _) (grows_cons (Is.grows _) (grows_cons (Is.grows _) (grows_cons (Is.grows _) (grows_cons (Is.grows _) (grows_cons (Is.grows _) (grows_cons (Is.grows _) (grows_cons (Is.grows _) (grows_cons (Is.grows _) (grows_cons (Is.grows _) (grows_cons (Is.grows _) (grows_cons (Is.grows _) (grows_cons (Is.grows _) (grows_cons (Is.grows _) (grows_cons (Is.grows _) (grows_cons (Is.grows _) (grows_cons (Is.grows _) (grows_cons (Is.grows _) grows_nil))))))))))))))))))))))
              ⟨(step_ex _ rfl (.inl rfl) rfl (fun a ww hw hf hd => by
             have h8 : a.eval (.tmp 8) = Value.int .i64 i := ((knows_out 8 (by kernel_rfl) rfl) : Knows _ _ _ _ _ _ 0 _ _) a ww hw hf hd
             revert h8
             generalize a.eval = ev
             intro h8
             unfold execOp
             simp only [h8]
             go_simp)),
               (step_ex _ rfl (.inl rfl) rfl (fun a ww hw hf hd => by
             have h7 : a.eval (.tmp 7) = Value.pointer (some ⟨t7, 0, none⟩) := ((knows_out 7 (by kernel_rfl) rfl) : Knows _ _ _ _ _ _ 1 _ _) a ww hw hf hd
             have f0 : ww.cell? ⟨t7, 0, none⟩ = some (Value.int .i64 (pre.length : Nat)) := cellB c7 hw
             revert h7
             generalize a.eval = ev
             intro h7
             unfold execOp
             simp only [h7]
             go_simp)),
               (step_ex _ rfl (.inl rfl) rfl (fun a ww hw hf hd => by
             have h53 : a.eval (.tmp 53) = Value.int .i64 i := ((knows_in 0 53 (by decide) (by kernel_rfl) rfl rfl) : Knows _ _ _ _ _ _ 2 _ _) a ww hw hf hd
             have h54 : a.eval (.tmp 54) = Value.int .i64 (pre.length : Nat) := ((knows_in 1 54 (by decide) (by kernel_rfl) rfl rfl) : Knows _ _ _ _ _ _ 2 _ _) a ww hw hf hd
             have f0 := hne
             revert h53 h54
             generalize a.eval = ev
             intro h53 h54
             unfold execOp
             simp only [h53, h54]
             go_simp)),
               (step_ex _ rfl (.inl rfl) rfl (fun a ww hw hf hd => by
             have h55 : a.eval (.tmp 55) = Value.bool true := ((knows_in 2 55 (by decide) (by kernel_rfl) rfl rfl) : Knows _ _ _ _ _ _ 3 _ _) a ww hw hf hd
             revert h55
             generalize a.eval = ev
             intro h55
             unfold execOp
             simp only [h55]
             go_simp)),
               (step_off rfl ⟨3, false, 56, rfl, by decide, by kernel_rfl, rfl, fun _ _ h => .inl h⟩ (fun _ => rfl)),
               (step_off rfl ⟨3, false, 56, rfl, by decide, by kernel_rfl, rfl, fun _ _ h => .inl h⟩ (fun _ => rfl)),
               (step_off rfl ⟨3, false, 56, rfl, by decide, by kernel_rfl, rfl, fun _ _ h => .inl h⟩ (fun _ => rfl)),
               (step_off rfl ⟨3, false, 56, rfl, by decide, by kernel_rfl, rfl, fun _ _ h => .inl h⟩ (fun _ => rfl)),
               (step_off rfl ⟨3, false, 56, rfl, by decide, by kernel_rfl, rfl, fun _ _ h => .inl h⟩ (fun _ => rfl)),
               (step_off rfl ⟨3, false, 56, rfl, by decide, by kernel_rfl, rfl, fun _ _ h => .inl h⟩ (fun _ => rfl)),
               (step_off rfl ⟨3, false, 56, rfl, by decide, by kernel_rfl, rfl, fun _ _ h => .inl h⟩ (fun _ => rfl)),
               (step_ex _ rfl (.inl rfl) rfl (fun a ww hw hf hd => by
             have h56 : a.eval (.tmp 56) = Value.bool true := ((knows_in 3 56 (by decide) (by kernel_rfl) rfl rfl) : Knows _ _ _ _ _ _ 11 _ _) a ww hw hf hd
             have hc := ec a
             revert hc h56
             generalize a.eval = ev
             intro hc h56
             unfold execOp
             simp only [hc, h56]
             go_simp)),
               (step_ex _ rfl (.inl rfl) rfl (fun a ww hw hf hd => by
             have h64 : a.eval (.tmp 64) = Value.bool true := ((knows_in 11 64 (by decide) (by kernel_rfl) rfl rfl) : Knows _ _ _ _ _ _ 12 _ _) a ww hw hf hd
             revert h64
             generalize a.eval = ev
             intro h64
             unfold execOp
             simp only [h64]
             go_simp)),
               (step_off rfl ⟨12, false, 65, rfl, by decide, by kernel_rfl, rfl, fun _ _ h => .inl h⟩ (fun _ => rfl)),
               (step_off rfl ⟨12, false, 65, rfl, by decide, by kernel_rfl, rfl, fun _ _ h => .inl h⟩ (fun _ => rfl)),
               (step_off rfl ⟨12, false, 65, rfl, by decide, by kernel_rfl, rfl, fun _ _ h => .inl h⟩ (fun _ => rfl)),
               (step_off rfl ⟨12, false, 65, rfl, by decide, by kernel_rfl, rfl, fun _ _ h => .inl h⟩ (fun _ => rfl)),
               (step_off rfl ⟨12, false, 65, rfl, by decide, by kernel_rfl, rfl, fun _ _ h => .inl h⟩ (fun _ => rfl)),
               (step_off rfl ⟨12, false, 65, rfl, by decide, by kernel_rfl, rfl, fun _ _ h => .inl h⟩ (fun _ => rfl)),
               (step_off rfl ⟨12, false, 65, rfl, by decide, by kernel_rfl, rfl, fun _ _ h => .inl h⟩ (fun _ => rfl)),
               (step_off rfl ⟨12, false, 65, rfl, by decide, by kernel_rfl, rfl, fun _ _ h => .inl h⟩ (fun _ => rfl)),
               (step_off rfl ⟨12, false, 65, rfl, by decide, by kernel_rfl, rfl, fun _ _ h => .inl h⟩ (fun _ => rfl)), trivial⟩ ?_
            intro val W2 hw hS _ _
            have e53 : val 53 = Value.int .i64 i := hS 0 53 (by decide) rfl
            have e54 : val 54 = Value.int .i64 (pre.length : Nat) := hS 1 54 (by decide) rfl
            have e55 : val 55 = Value.bool true := hS 2 55 (by decide) rfl
            have e56 : val 56 = Value.bool true := hS 3 56 (by decide) rfl
            have e57 : val 57 = undef := hS 4 57 (by decide) rfl
            have e58 : val 58 = undef := hS 5 58 (by decide) rfl
            have e59 : val 59 = undef := hS 6 59 (by decide) rfl
            have e60 : val 60 = undef := hS 7 60 (by decide) rfl
            have e61 : val 61 = undef := hS 8 61 (by decide) rfl
            have e62 : val 62 = undef := hS 9 62 (by decide) rfl
            have e63 : val 63 = undef := hS 10 63 (by decide) rfl
            have e64 : val 64 = Value.bool true := hS 11 64 (by decide) rfl
            have e65 : val 65 = Value.bool true := hS 12 65 (by decide) rfl
            have e66 : val 66 = undef := hS 13 66 (by decide) rfl
            have e67 : val 67 = undef := hS 14 67 (by decide) rfl
            have e68 : val 68 = undef := hS 15 68 (by decide) rfl
            have e69 : val 69 = undef := hS 16 69 (by decide) rfl
            have e70 : val 70 = undef := hS 17 70 (by decide) rfl
            have e71 : val 71 = undef := hS 18 71 (by decide) rfl
            have e72 : val 72 = undef := hS 19 72 (by decide) rfl
            have e73 : val 73 = undef := hS 20 73 (by decide) rfl
            have e74 : val 74 = undef := hS 21 74 (by decide) rfl
            simp only [putVals, List.foldl_cons, List.foldl_nil, List.drop_succ_cons, List.drop_zero, Act.put, List.setIfInBounds_toArray, List.set_cons_succ, List.set_cons_zero, e53, e54, e55, e56, e57, e58, e59, e60, e61, e62, e63, e64, e65, e66, e67, e68, e69, e70, e71, e72, e73, e74]
            clear e53 e54 e55 e56 e57 e58 e59 e60 e61 e62 e63 e64 e65 e66 e67 e68 e69 e70 e71 e72 e73 e74 hS
            clear hrg r0 b4 c7 hge hALe hne
            have c22 := (b2B.next (show Below W.heap.size W W2 from hw)).cell (i := 0) rfl
            have f22 := (b2B.next (show Below W.heap.size W W2 from hw)).free 0
            go_wp2
            gi_wp2
            exact ⟨keeps_chg (G := fun b => b = w.heap.size) ((Chg.of (show Below W.heap.size W W2 from hw) (fun b => b = w.heap.size)).setCell (p := ⟨w.heap.size, 0, none⟩) (.inl rfl) _) (fun b e => by omega), fun h => HX.out (upTo_last h)⟩
        · rintro D xs W hD ⟨hlen, hup⟩ ⟨_, hR⟩ hK
          subst haa
          have hI := HI.out
          have hBW := hbot.over HT7.out.symm HC.out hR.chg (Nat.le_of_lt hI.b2.lt)
          have hB4 := (hI.b4.next HC.out).chg hR.chg (by omega)
          have hB2 := (hI.b2.next HC.out).chg hR.chg (by omega)
          have hB7 := hR.b7
          rw [hlen] at hB7
          have hbW : Below w.heap.size w W := hbelr.trans ((Below.mono HC.out (Nat.le_of_lt hI.b2.lt)).trans (hR.chg.below (Nat.le_trans (Nat.le_of_lt hI.b2.lt) HC.out.size) (fun b e => by omega)))
          have hDw : w.heap.size ≤ D := by have := HC.out.size; have := hI.b2.lt; omega
          dsimp only
          clear hlen hup hR hbot HI HC HT7 hI hbelr hbxc hAc hATc h7c ht7l
          obtain ⟨A0, c0', AL, cL, c0, c1, r0, hA0, hAL⟩ := hBW.rows
          have b4 := hB4.cell (i := 0) rfl
          have hLn : (L.length : Int) ≤ 30 := by omega
          go_wp2
          go_loopw [83] (fun v wr => ∃ k2 : Nat, k2 ≤ L.length ∧ v = .int .i64 k2 ∧ Below W.heap.size W wr) (fun v _ => L.length - (intOf v).toNat)
          case atStart => exact ⟨0, Nat.zero_le _, rfl, Below.refl _ _⟩
          case round =>
            obtain ⟨k2, hk2, rfl, hcl⟩ := hrel
            have hBr := hBW.next hcl
            have b4r := (hB4.next hcl).cell (i := 0) rfl
            have r0r := cellB r0 hcl
            by_cases hlt : k2 < L.length
            · obtain ⟨t, ht⟩ : ∃ t, L[k2]? = some t := ⟨L[k2], by simp [hlt]⟩
              have hkl : (k2 : Int) < L.length := by omega
              have hk0 : (0 : Int) ≤ k2 := by omega
              have hk1 : k2 + 1 ≤ L.length := by omega
              obtain ⟨_, hCS⟩ := hBr.code
              obtain ⟨nx, DN, DI, hP⟩ := hCS.pure
              obtain ⟨hT, hWF⟩ := hP.wf k2 t ht
              obtain ⟨g, hALe, hg, hcell⟩ := (hAL.below hcl) (by omega)
              subst hALe
              obtain ⟨x0, x1, x2⟩ := hcell k2 t ht
              have hz := hP.zv k2 t ht
              obtain ⟨r, hr⟩ : ∃ r, szOf (szsOf L) t = r := ⟨_, rfl⟩
              rw [hr] at hz
              have hsz : ∀ ww, Below wr.heap.size wr ww → Calls Try.prog 14 #[.pointer (some ⟨p, 0, none⟩), .int .i64 k2] ww fun e w' => e = .returned (.int .i64 r) ∧ Below ww.heap.size ww w' := fun ww h => calls_q (sizeN_yes _ p L X k2 r ww (hCS.next h) hz)
              have hrs : k2 < 12 → ∀ ww, Below wr.heap.size wr ww → Calls Try.prog 15 #[.pointer (some ⟨q, 0, none⟩), .int .i64 k2] ww fun e w' => e = .returned (.int .i64 r) ∧ Below ww.heap.size ww w' := fun h12 ww h => by
                have := rsize_any hP q cL g k2 h12 hlt ww (cellB r0r h) ((hAL.below hcl).below h)
                rw [List.getD_eq_getElem?_getD, hz, Option.getD_some] at this
                exact this
              have hget : ∀ ww, Below wr.heap.size wr ww → Calls Try.prog 11 #[.pointer (some ⟨p, 0, none⟩), .int .i64 k2] ww fun e w' => e = .returned (.tuple #[.agg #[.int .i64 t.1, .int .i64 t.2.1, .int .i64 t.2.2], .bool true]) ∧ Below ww.heap.size ww w' := fun ww h => get_yes _ p L X k2 t.1 t.2.1 t.2.2 ww (hCS.next h) ht
              by_cases h9 : t.1 = 9
              · obtain ⟨j, x, htj, hxj⟩ : ∃ (j : Nat) (x : List Int), t = (9, (j : Int), 0) ∧ X[j]? = some x := by
                  rcases hWF with ⟨h, _⟩ | ⟨h, _⟩ | ⟨h, _⟩ | ⟨_, h1, h2, h3⟩
                  · omega
                  · omega
                  · omega
                  · refine ⟨t.2.1.toNat, X[t.2.1.toNat]'(by omega), ?_, by simp [show t.2.1.toNat < X.length by omega]⟩
                    obtain ⟨u1, u2, u3⟩ := t
                    dsimp only at h9 h1 h2 h3 ⊢
                    rw [h9, h3, Int.toNat_of_nonneg h1]
                have hx2 := (hP.xb x (List.mem_of_getElem? hxj)).2
                have hx4 : x.length ≤ 4096 := by omega
                obtain ⟨gx, cX, A2, c2, d1, d2, hN2⟩ := hBr.text hxj
                have hjX : (j : Int) < X.length := by have := get_lt hxj; omega
                have hj0 : (0 : Int) ≤ j := by omega
                have hgetb : ∀ ww, Below wr.heap.size wr ww → Calls Try.prog 12 #[.pointer (some ⟨p, 0, none⟩), .int .i64 k2] ww fun e w' => ∃ A1 c1x, e = .returned (.tuple #[.slice A1 x.length c1x, .bool true]) ∧ Below ww.heap.size ww w' ∧ Nums w' .u8 A1 x := fun ww h => bytes_yes _ p L X k2 j x ww (hCS.next h) (by rw [← htj]; exact ht) hxj
                obtain ⟨W7, hW7, y0, y1, y2, hb7, hB7t⟩ := term_world t wr
                have y1j : W7.cell? ⟨wr.heap.size, 1, none⟩ = some (.int .i64 (j : Nat)) := by rw [y1, htj]
                have HW7 := hid hW7
                have HT := hid htj
                have e9 : (t.1 == (9 : Int)) = true := beq_iff_eq.2 h9
                clear h9
                clear hW7 htj hP hCS hcell hxj hWF ht hz hr hx2 hlt hk2 y1 hAL
                go_upto_region 22 with (fail)
                rw [HW7.out]
                clear x0 x1 x2 HW7
                go_upto_region 26 with (first
                  | (go_at_call 11; refine (hget _ hb7).mono ?_; rintro e w8 ⟨rfl, hb8⟩; obtain ⟨W9, hW9, _, _, _, hb9, hB9t⟩ := term_world t w8; have hb79 : Below W7.heap.size W7 W9 := hb8.trans (Below.mono hb9 hb8.size); have hb09 : Below wr.heap.size wr W9 := hb7.trans (Below.mono hb79 hb7.size))
                  | (go_at_call 12; refine (hgetb _ hb09).mono ?_; rintro e W10 ⟨A1, c1x, rfl, hb10, hN1⟩; have y0c := cellB y0 (hb79.trans (Below.mono hb10 hb79.size))))
                have hb7X : Below W7.heap.size W7 W10 := hb79.trans (Below.mono hb10 hb79.size)
                have HB10 : Below wr.heap.size wr W10 := hb09.trans (Below.mono hb10 hb09.size)
                have y0X := cellB y0 hb7X
                have y1X := cellB y1j hb7X
                have hB7X := hB7t.next hb7X
                have hB9X := hB9t.next hb10
                have b4X := cellB b4r HB10
                have d1X := cellB d1 HB10
                have d2X := cellB d2 HB10
                have hN2X := hN2.below HB10
                clear y0 y1j hB7t hB9t d1 d2 hN2 hgetb hget hb79 hb09 hb7 hb8 hb9 hb10 hb7X y0c
                refine region_spec2 8 171 (fun _ => false) [Is (Value.pointer (some ⟨q, 0, none⟩)), Is (Value.pointer (some ⟨q, 0, none⟩)), Is (Value.pointer (some ⟨q, 1, none⟩)), Is (Value.slice (some ⟨gx, 0, none⟩) X.length cX), Is (Value.pointer (some ⟨wr.heap.size, 1, none⟩)), Is (Value.int .i64 (j : Nat)), Is (Value.pointer (some ⟨gx, j, none⟩)), Is (Value.slice A2 x.length c2)] [103, 104, 105, 106, 107, 108, 109, 110] (by kernel_rfl) (by kernel_rfl) (by kernel_rfl) (Nat.le_of_eq rfl) (grows_cons (Is.grows _) (grows_cons (Is.grows _) (grows_cons (Is.grows _) (grows_cons (Is.grows _) (grows_cons (Is.grows _) (grows_cons (Is.grows _) (grows_cons (Is.grows _) (grows_cons (Is.grows _) grows_nil))))))))
                  ⟨(step_ex _ rfl (.inl rfl) rfl (fun a ww hw hf hd => by
                 have h4 : a.eval (.tmp 4) = Value.pointer (some ⟨(q + 1), 0, none⟩) := ((knows_out 4 (by kernel_rfl) rfl) : Knows _ _ _ _ _ _ 0 _ _) a ww hw hf hd
                 have f0 : ww.cell? ⟨(q + 1), 0, none⟩ = some (Value.pointer (some ⟨q, 0, none⟩)) := cellB b4X hw
                 revert h4
                 generalize a.eval = ev
                 intro h4
                 unfold execOp
                 simp only [h4]
                 go_simp)),
                   (step_ex _ rfl (.inl rfl) rfl (fun a ww hw hf hd => by
                 have h103 : a.eval (.tmp 103) = Value.pointer (some ⟨q, 0, none⟩) := ((knows_in 0 103 (by decide) (by kernel_rfl) rfl rfl) : Knows _ _ _ _ _ _ 1 _ _) a ww hw hf hd
                 revert h103
                 generalize a.eval = ev
                 intro h103
                 unfold execOp
                 simp only [h103]
                 go_simp)),
                   (step_ex _ rfl (.inl rfl) rfl (fun a ww hw hf hd => by
                 have h104 : a.eval (.tmp 104) = Value.pointer (some ⟨q, 0, none⟩) := ((knows_in 1 104 (by decide) (by kernel_rfl) rfl rfl) : Knows _ _ _ _ _ _ 2 _ _) a ww hw hf hd
                 revert h104
                 generalize a.eval = ev
                 intro h104
                 unfold execOp
                 simp only [h104]
                 go_simp)),
                   (step_ex _ rfl (.inl rfl) rfl (fun a ww hw hf hd => by
                 have h105 : a.eval (.tmp 105) = Value.pointer (some ⟨q, 1, none⟩) := ((knows_in 2 105 (by decide) (by kernel_rfl) rfl rfl) : Knows _ _ _ _ _ _ 3 _ _) a ww hw hf hd
                 have f0 : ww.cell? ⟨q, 1, none⟩ = some (Value.slice (some ⟨gx, 0, none⟩) X.length cX) := cellB d1X hw
                 revert h105
                 generalize a.eval = ev
                 intro h105
                 unfold execOp
                 simp only [h105]
                 go_simp)),
                   (step_ex _ rfl (.inl rfl) rfl (fun a ww hw hf hd => by
                 have h11 : a.eval (.tmp 11) = Value.pointer (some ⟨wr.heap.size, 0, none⟩) := ((knows_out 11 (by kernel_rfl) rfl) : Knows _ _ _ _ _ _ 4 _ _) a ww hw hf hd
                 revert h11
                 generalize a.eval = ev
                 intro h11
                 unfold execOp
                 simp only [h11]
                 go_simp)),
                   (step_ex _ rfl (.inl rfl) rfl (fun a ww hw hf hd => by
                 have h107 : a.eval (.tmp 107) = Value.pointer (some ⟨wr.heap.size, 1, none⟩) := ((knows_in 4 107 (by decide) (by kernel_rfl) rfl rfl) : Knows _ _ _ _ _ _ 5 _ _) a ww hw hf hd
                 have f0 : ww.cell? ⟨wr.heap.size, 1, none⟩ = some (Value.int .i64 (j : Nat)) := cellB y1X hw
                 revert h107
                 generalize a.eval = ev
                 intro h107
                 unfold execOp
                 simp only [h107]
                 go_simp)),
                   (step_ex _ rfl (.inl rfl) rfl (fun a ww hw hf hd => by
                 have h106 : a.eval (.tmp 106) = Value.slice (some ⟨gx, 0, none⟩) X.length cX := ((knows_in 3 106 (by decide) (by kernel_rfl) rfl rfl) : Knows _ _ _ _ _ _ 6 _ _) a ww hw hf hd
                 have h108 : a.eval (.tmp 108) = Value.int .i64 (j : Nat) := ((knows_in 5 108 (by decide) (by kernel_rfl) rfl rfl) : Knows _ _ _ _ _ _ 6 _ _) a ww hw hf hd
                 have f0 := hjX
                 have f1 := hj0
                 revert h106 h108
                 generalize a.eval = ev
                 intro h106 h108
                 unfold execOp
                 simp only [h106, h108]
                 go_simp)),
                   (step_ex _ rfl (.inl rfl) rfl (fun a ww hw hf hd => by
                 have h109 : a.eval (.tmp 109) = Value.pointer (some ⟨gx, j, none⟩) := ((knows_in 6 109 (by decide) (by kernel_rfl) rfl rfl) : Knows _ _ _ _ _ _ 7 _ _) a ww hw hf hd
                 have f0 : ww.cell? ⟨gx, j, none⟩ = some (Value.slice A2 x.length c2) := cellB d2X hw
                 revert h109
                 generalize a.eval = ev
                 intro h109
                 unfold execOp
                 simp only [h109]
                 go_simp)), trivial⟩ ?_
                intro val W11 hw hS _ _
                have e103 : val 103 = Value.pointer (some ⟨q, 0, none⟩) := hS 0 103 (by decide) rfl
                have e104 : val 104 = Value.pointer (some ⟨q, 0, none⟩) := hS 1 104 (by decide) rfl
                have e105 : val 105 = Value.pointer (some ⟨q, 1, none⟩) := hS 2 105 (by decide) rfl
                have e106 : val 106 = Value.slice (some ⟨gx, 0, none⟩) X.length cX := hS 3 106 (by decide) rfl
                have e107 : val 107 = Value.pointer (some ⟨wr.heap.size, 1, none⟩) := hS 4 107 (by decide) rfl
                have e108 : val 108 = Value.int .i64 (j : Nat) := hS 5 108 (by decide) rfl
                have e109 : val 109 = Value.pointer (some ⟨gx, j, none⟩) := hS 6 109 (by decide) rfl
                have e110 : val 110 = Value.slice A2 x.length c2 := hS 7 110 (by decide) rfl
                simp only [putVals, List.foldl_cons, List.foldl_nil, List.drop_succ_cons, List.drop_zero, Act.put, List.setIfInBounds_toArray, List.set_cons_succ, List.set_cons_zero, e103, e104, e105, e106, e107, e108, e109, e110]
                clear e103 e104 e105 e106 e107 e108 e109 e110 hS
                have HB11 : Below wr.heap.size wr W11 := HB10.trans (Below.mono (show Below W10.heap.size W10 W11 from hw) HB10.size)
                have y0Y := cellB y0X hw
                have hB7Y := hB7X.next hw
                have hB9Y := hB9X.next hw
                have b4Y := cellB b4X hw
                have hN2Y := hN2X.below hw
                have hN1Y := hN1.below hw
                clear y0X y1X hB7X hB9X b4X d1X d2X hN2X hN1 HB10 hw
                have hTT : decide (t = t) = true := decide_eq_true rfl
                by_cases h12 : (k2 : Int) < 12
                · have hrs := hrs (by omega)
                  go_upto_region 27 with (fail)
                  refine region_spec2 32 171 (fun _ => false) [Is (Value.bool true), Is (Value.bool false), Is (Value.bool false), Is (Value.agg (tc t).toArray), Is (Value.agg (tc t).toArray), Is (Value.bool false), Is (Value.bool false), Is (Value.bool false), Is (Value.bool true), Is (Value.pointer (some ⟨wr.heap.size, 0, none⟩)), Is (Value.int .i64 t.1), Is (Value.bool true), Is (Value.bool false), Is (Value.bool false), Is (Value.bool false), Is (Value.slice A1 x.length c1x), Is (Value.slice A2 x.length c2), Is (Value.bool true), Is (Value.bool false), Is (Value.bool false), Is (Value.bool false), Is (Value.int .i64 k2), Is (Value.bool true), Is (Value.bool true), Is (Value.pointer (some ⟨p, 0, none⟩)), Is (Value.int .i64 k2), Is (Value.int .i64 r), Is (Value.pointer (some ⟨q, 0, none⟩)), Is (Value.int .i64 k2), Is (Value.int .i64 r), Is (Value.bool false), Is (Value.bool false)] [111, 112, 113, 114, 115, 116, 117, 118, 119, 120, 121, 122, 123, 124, 125, 126, 127, 128, 129, 130, 131, 132, 133, 134, 135, 136, 137, 138, 139, 140, 141, 142] (by kernel_rfl) (by kernel_rfl) (by kernel_rfl) (Nat.le_of_eq rfl) (grows_cons (Is.grows _) (grows_cons (Is.grows _) (grows_cons (Is.grows _) (grows_cons (Is.grows _) (grows_cons (Is.grows _) (grows_cons (Is.grows _) (grows_cons (Is.grows _) (grows_cons (Is.grows _) (grows_cons (Is.grows _) (grows_cons (Is.grows _) (grows_cons (Is.grows _) (grows_cons (Is.grows _) (grows_cons (Is.grows _) (grows_cons (Is.grows _) (grows_cons (Is.grows _) (grows_cons (Is.grows _) (grows_cons (Is.grows _) (grows_cons (Is.grows _) (grows_cons (Is.grows _) (grows_cons (Is.grows _) (grows_cons (Is.grows _) (grows_cons (Is.grows _) (grows_cons (Is.grows _) (grows_cons (Is.grows _) (grows_cons (Is.grows _) (grows_cons (Is.grows _) (grows_cons (Is.grows _) (grows_cons (Is.grows _) (grows_cons (Is.grows _) (grows_cons (Is.grows _) (grows_cons (Is.grows _) (grows_cons (Is.grows _) grows_nil))))))))))))))))))))))))))))))))
                    ⟨(step_ex _ rfl (.inl rfl) rfl (fun a ww hw hf hd => by
                   have h13 : a.eval (.tmp 13) = Value.bool true := ((knows_out 13 (by kernel_rfl) rfl) : Knows _ _ _ _ _ _ 0 _ _) a ww hw hf hd
                   revert h13
                   generalize a.eval = ev
                   intro h13
                   unfold execOp
                   simp only [h13]
                   go_simp)),
                     (step_ex _ rfl (.inl rfl) rfl (fun a ww hw hf hd => by
                   have h111 : a.eval (.tmp 111) = Value.bool true := ((knows_in 0 111 (by decide) (by kernel_rfl) rfl rfl) : Knows _ _ _ _ _ _ 1 _ _) a ww hw hf hd
                   revert h111
                   generalize a.eval = ev
                   intro h111
                   unfold execOp
                   simp only [h111]
                   go_simp)),
                     (step_ex _ rfl (.inl rfl) rfl (fun a ww hw hf hd => by
                   have h112 : a.eval (.tmp 112) = Value.bool false := ((knows_in 1 112 (by decide) (by kernel_rfl) rfl rfl) : Knows _ _ _ _ _ _ 2 _ _) a ww hw hf hd
                   revert h112
                   generalize a.eval = ev
                   intro h112
                   unfold execOp
                   simp only [h112]
                   go_simp)),
                     (step_ldV rfl (.inr ⟨2, false, 113, rfl, by decide, by kernel_rfl, rfl, fun _ _ h => h⟩) (fun _ hw => (hB9Y.next hw).rw.range) rfl Try.underlying33 rfl (szV infT (tc_len _)) rfl (knows_out 12 (by kernel_rfl) rfl)),
                     (step_ldV rfl (.inr ⟨2, false, 113, rfl, by decide, by kernel_rfl, rfl, fun _ _ h => h⟩) (fun _ hw => (hB7Y.next hw).rw.range) rfl Try.underlying33 rfl (szV infT (tc_len _)) rfl (knows_out 11 (by kernel_rfl) rfl)),
                     (step_ex (Value.bool false) rfl (.inr ⟨2, false, 113, rfl, by decide, by kernel_rfl, rfl, fun _ _ h => h⟩) rfl (fun a ww hw hf hd => exec_neT rfl (((knows_in 3 114 (by decide) (by kernel_rfl) rfl rfl) : Knows _ _ _ _ _ _ 5 _ (Value.agg (tc t).toArray)) a ww hw hf hd) (((knows_in 4 115 (by decide) (by kernel_rfl) rfl rfl) : Knows _ _ _ _ _ _ 5 _ (Value.agg (tc t).toArray)) a ww hw hf hd) hT hT hTT ww)),
                     (step_ex _ rfl (.inl rfl) rfl (fun a ww hw hf hd => by
                   have h113 : a.eval (.tmp 113) = Value.bool false := ((knows_in 2 113 (by decide) (by kernel_rfl) rfl rfl) : Knows _ _ _ _ _ _ 6 _ _) a ww hw hf hd
                   have h116 : a.eval (.tmp 116) = Value.bool false := ((knows_in 5 116 (by decide) (by kernel_rfl) rfl rfl) : Knows _ _ _ _ _ _ 6 _ _) a ww hw hf hd
                   have hc := ec a
                   revert hc h113 h116
                   generalize a.eval = ev
                   intro hc h113 h116
                   unfold execOp
                   simp only [hc, h113, h116]
                   go_simp)),
                     (step_ex _ rfl (.inl rfl) rfl (fun a ww hw hf hd => by
                   have h117 : a.eval (.tmp 117) = Value.bool false := ((knows_in 6 117 (by decide) (by kernel_rfl) rfl rfl) : Knows _ _ _ _ _ _ 7 _ _) a ww hw hf hd
                   revert h117
                   generalize a.eval = ev
                   intro h117
                   unfold execOp
                   simp only [h117]
                   go_simp)),
                     (step_ex _ rfl (.inr ⟨7, false, 118, rfl, by decide, by kernel_rfl, rfl, fun _ _ h => h⟩) rfl (fun a ww hw hf hd => by
                   have h15 : a.eval (.tmp 15) = Value.bool true := ((knows_out 15 (by kernel_rfl) rfl) : Knows _ _ _ _ _ _ 8 _ _) a ww hw hf hd
                   revert h15
                   generalize a.eval = ev
                   intro h15
                   unfold execOp
                   simp only [h15]
                   go_simp)),
                     (step_ex _ rfl (.inr ⟨7, false, 118, rfl, by decide, by kernel_rfl, rfl, fun _ _ h => h⟩) rfl (fun a ww hw hf hd => by
                   have h11 : a.eval (.tmp 11) = Value.pointer (some ⟨wr.heap.size, 0, none⟩) := ((knows_out 11 (by kernel_rfl) rfl) : Knows _ _ _ _ _ _ 9 _ _) a ww hw hf hd
                   revert h11
                   generalize a.eval = ev
                   intro h11
                   unfold execOp
                   simp only [h11]
                   go_simp)),
                     (step_ex _ rfl (.inr ⟨7, false, 118, rfl, by decide, by kernel_rfl, rfl, fun _ _ h => h⟩) rfl (fun a ww hw hf hd => by
                   have h120 : a.eval (.tmp 120) = Value.pointer (some ⟨wr.heap.size, 0, none⟩) := ((knows_in 9 120 (by decide) (by kernel_rfl) rfl rfl) : Knows _ _ _ _ _ _ 10 _ _) a ww hw hf hd
                   have f0 : ww.cell? ⟨wr.heap.size, 0, none⟩ = some (Value.int .i64 t.1) := cellB y0Y hw
                   revert h120
                   generalize a.eval = ev
                   intro h120
                   unfold execOp
                   simp only [h120]
                   go_simp)),
                     (step_ex _ rfl (.inr ⟨7, false, 118, rfl, by decide, by kernel_rfl, rfl, fun _ _ h => h⟩) rfl (fun a ww hw hf hd => by
                   have h121 : a.eval (.tmp 121) = Value.int .i64 t.1 := ((knows_in 10 121 (by decide) (by kernel_rfl) rfl rfl) : Knows _ _ _ _ _ _ 11 _ _) a ww hw hf hd
                   have f0 := beq_iff_eq.1 e9
                   have hc := ec a
                   revert hc h121
                   generalize a.eval = ev
                   intro hc h121
                   unfold execOp
                   simp only [hc, h121]
                   go_simp)),
                     (step_ex _ rfl (.inr ⟨7, false, 118, rfl, by decide, by kernel_rfl, rfl, fun _ _ h => h⟩) rfl (fun a ww hw hf hd => by
                   have h119 : a.eval (.tmp 119) = Value.bool true := ((knows_in 8 119 (by decide) (by kernel_rfl) rfl rfl) : Knows _ _ _ _ _ _ 12 _ _) a ww hw hf hd
                   have h122 : a.eval (.tmp 122) = Value.bool true := ((knows_in 11 122 (by decide) (by kernel_rfl) rfl rfl) : Knows _ _ _ _ _ _ 12 _ _) a ww hw hf hd
                   revert h119 h122
                   generalize a.eval = ev
                   intro h119 h122
                   unfold execOp
                   simp only [h119, h122]
                   go_simp)),
                     (step_ex _ rfl (.inl rfl) rfl (fun a ww hw hf hd => by
                   have h118 : a.eval (.tmp 118) = Value.bool false := ((knows_in 7 118 (by decide) (by kernel_rfl) rfl rfl) : Knows _ _ _ _ _ _ 13 _ _) a ww hw hf hd
                   have h123 : a.eval (.tmp 123) = Value.bool false := ((knows_in 12 123 (by decide) (by kernel_rfl) rfl rfl) : Knows _ _ _ _ _ _ 13 _ _) a ww hw hf hd
                   have hc := ec a
                   revert hc h118 h123
                   generalize a.eval = ev
                   intro hc h118 h123
                   unfold execOp
                   simp only [hc, h118, h123]
                   go_simp)),
                     (step_ex _ rfl (.inl rfl) rfl (fun a ww hw hf hd => by
                   have h124 : a.eval (.tmp 124) = Value.bool false := ((knows_in 13 124 (by decide) (by kernel_rfl) rfl rfl) : Knows _ _ _ _ _ _ 14 _ _) a ww hw hf hd
                   revert h124
                   generalize a.eval = ev
                   intro h124
                   unfold execOp
                   simp only [h124]
                   go_simp)),
                     (step_ex _ rfl (.inr ⟨14, false, 125, rfl, by decide, by kernel_rfl, rfl, fun _ _ h => h⟩) rfl (fun a ww hw hf hd => by
                   have h14 : a.eval (.tmp 14) = Value.slice A1 x.length c1x := ((knows_out 14 (by kernel_rfl) rfl) : Knows _ _ _ _ _ _ 15 _ _) a ww hw hf hd
                   revert h14
                   generalize a.eval = ev
                   intro h14
                   unfold execOp
                   simp only [h14]
                   go_simp)),
                     (step_ex _ rfl (.inr ⟨14, false, 125, rfl, by decide, by kernel_rfl, rfl, fun _ _ h => h⟩) rfl (fun a ww hw hf hd => by
                   have h16 : a.eval (.tmp 16) = Value.slice A2 x.length c2 := ((knows_out 16 (by kernel_rfl) rfl) : Knows _ _ _ _ _ _ 16 _ _) a ww hw hf hd
                   revert h16
                   generalize a.eval = ev
                   intro h16
                   unfold execOp
                   simp only [h16]
                   go_simp)),
                     (step_cw rfl (.inr ⟨14, false, 125, rfl, by decide, by kernel_rfl, rfl, fun _ _ h => h⟩) rfl cxT13 rfl (fun aa ww hw hf hd => ⟨_, (two_args (knows_in 15 126 (by decide) (by kernel_rfl) rfl rfl) (knows_in 16 127 (by decide) (by kernel_rfl) rfl rfl)) aa ww hw hf hd, rsame_any A1 A2 x.length x.length c1x c2 x x true ww hx4 rfl rfl (decide_eq_true rfl) (hN1Y.below hw) (hN2Y.below hw)⟩)),
                     (step_ex _ rfl (.inr ⟨14, false, 125, rfl, by decide, by kernel_rfl, rfl, fun _ _ h => h⟩) rfl (fun a ww hw hf hd => by
                   have h128 : a.eval (.tmp 128) = Value.bool true := ((knows_in 17 128 (by decide) (by kernel_rfl) rfl rfl) : Knows _ _ _ _ _ _ 18 _ _) a ww hw hf hd
                   revert h128
                   generalize a.eval = ev
                   intro h128
                   unfold execOp
                   simp only [h128]
                   go_simp)),
                     (step_ex _ rfl (.inl rfl) rfl (fun a ww hw hf hd => by
                   have h125 : a.eval (.tmp 125) = Value.bool false := ((knows_in 14 125 (by decide) (by kernel_rfl) rfl rfl) : Knows _ _ _ _ _ _ 19 _ _) a ww hw hf hd
                   have h129 : a.eval (.tmp 129) = Value.bool false := ((knows_in 18 129 (by decide) (by kernel_rfl) rfl rfl) : Knows _ _ _ _ _ _ 19 _ _) a ww hw hf hd
                   have hc := ec a
                   revert hc h125 h129
                   generalize a.eval = ev
                   intro hc h125 h129
                   unfold execOp
                   simp only [hc, h125, h129]
                   go_simp)),
                     (step_ex _ rfl (.inl rfl) rfl (fun a ww hw hf hd => by
                   have h130 : a.eval (.tmp 130) = Value.bool false := ((knows_in 19 130 (by decide) (by kernel_rfl) rfl rfl) : Knows _ _ _ _ _ _ 20 _ _) a ww hw hf hd
                   revert h130
                   generalize a.eval = ev
                   intro h130
                   unfold execOp
                   simp only [h130]
                   go_simp)),
                     (step_ex _ rfl (.inr ⟨20, false, 131, rfl, by decide, by kernel_rfl, rfl, fun _ _ h => h⟩) rfl (fun a ww hw hf hd => by
                   have h10 : a.eval (.tmp 10) = Value.int .i64 k2 := ((knows_out 10 (by kernel_rfl) rfl) : Knows _ _ _ _ _ _ 21 _ _) a ww hw hf hd
                   revert h10
                   generalize a.eval = ev
                   intro h10
                   unfold execOp
                   simp only [h10]
                   go_simp)),
                     (step_ex _ rfl (.inr ⟨20, false, 131, rfl, by decide, by kernel_rfl, rfl, fun _ _ h => h⟩) rfl (fun a ww hw hf hd => by
                   have h132 : a.eval (.tmp 132) = Value.int .i64 k2 := ((knows_in 21 132 (by decide) (by kernel_rfl) rfl rfl) : Knows _ _ _ _ _ _ 22 _ _) a ww hw hf hd
                   have f0 := h12
                   have hc := ec a
                   revert hc h132
                   generalize a.eval = ev
                   intro hc h132
                   unfold execOp
                   simp only [hc, h132]
                   go_simp)),
                     (step_ex _ rfl (.inr ⟨20, false, 131, rfl, by decide, by kernel_rfl, rfl, fun _ _ h => h⟩) rfl (fun a ww hw hf hd => by
                   have h133 : a.eval (.tmp 133) = Value.bool true := ((knows_in 22 133 (by decide) (by kernel_rfl) rfl rfl) : Knows _ _ _ _ _ _ 23 _ _) a ww hw hf hd
                   revert h133
                   generalize a.eval = ev
                   intro h133
                   unfold execOp
                   simp only [h133]
                   go_simp)),
                     (step_ex _ rfl (.inr ⟨23, true, 134, rfl, by decide, by kernel_rfl, rfl, fun _ _ h => h⟩) rfl (fun a ww hw hf hd => by
                   have h3 : a.eval (.tmp 3) = Value.pointer (some ⟨p, 0, none⟩) := ((knows_out 3 (by kernel_rfl) rfl) : Knows _ _ _ _ _ _ 24 _ _) a ww hw hf hd
                   revert h3
                   generalize a.eval = ev
                   intro h3
                   unfold execOp
                   simp only [h3]
                   go_simp)),
                     (step_ex _ rfl (.inr ⟨23, true, 134, rfl, by decide, by kernel_rfl, rfl, fun _ _ h => h⟩) rfl (fun a ww hw hf hd => by
                   have h10 : a.eval (.tmp 10) = Value.int .i64 k2 := ((knows_out 10 (by kernel_rfl) rfl) : Knows _ _ _ _ _ _ 25 _ _) a ww hw hf hd
                   revert h10
                   generalize a.eval = ev
                   intro h10
                   unfold execOp
                   simp only [h10]
                   go_simp)),
                     (step_cw rfl (.inr ⟨23, true, 134, rfl, by decide, by kernel_rfl, rfl, fun _ _ h => h⟩) rfl cxT14 rfl (fun aa ww hw hf hd => ⟨_, (two_args (knows_in 24 135 (by decide) (by kernel_rfl) rfl rfl) (knows_in 25 136 (by decide) (by kernel_rfl) rfl rfl)) aa ww hw hf hd, hsz ww (HB11.trans (Below.mono (show Below W11.heap.size W11 ww from hw) HB11.size))⟩)),
                     (step_ex _ rfl (.inr ⟨23, true, 134, rfl, by decide, by kernel_rfl, rfl, fun _ _ h => h⟩) rfl (fun a ww hw hf hd => by
                   have h4 : a.eval (.tmp 4) = Value.pointer (some ⟨(q + 1), 0, none⟩) := ((knows_out 4 (by kernel_rfl) rfl) : Knows _ _ _ _ _ _ 27 _ _) a ww hw hf hd
                   have f0 : ww.cell? ⟨(q + 1), 0, none⟩ = some (Value.pointer (some ⟨q, 0, none⟩)) := cellB b4Y hw
                   revert h4
                   generalize a.eval = ev
                   intro h4
                   unfold execOp
                   simp only [h4]
                   go_simp)),
                     (step_ex _ rfl (.inr ⟨23, true, 134, rfl, by decide, by kernel_rfl, rfl, fun _ _ h => h⟩) rfl (fun a ww hw hf hd => by
                   have h10 : a.eval (.tmp 10) = Value.int .i64 k2 := ((knows_out 10 (by kernel_rfl) rfl) : Knows _ _ _ _ _ _ 28 _ _) a ww hw hf hd
                   revert h10
                   generalize a.eval = ev
                   intro h10
                   unfold execOp
                   simp only [h10]
                   go_simp)),
                     (step_cw rfl (.inr ⟨23, true, 134, rfl, by decide, by kernel_rfl, rfl, fun _ _ h => h⟩) rfl cxT15 rfl (fun aa ww hw hf hd => ⟨_, (two_args (knows_in 27 138 (by decide) (by kernel_rfl) rfl rfl) (knows_in 28 139 (by decide) (by kernel_rfl) rfl rfl)) aa ww hw hf hd, hrs ww (HB11.trans (Below.mono (show Below W11.heap.size W11 ww from hw) HB11.size))⟩)),
                     (step_ex _ rfl (.inr ⟨23, true, 134, rfl, by decide, by kernel_rfl, rfl, fun _ _ h => h⟩) rfl (fun a ww hw hf hd => by
                   have h137 : a.eval (.tmp 137) = Value.int .i64 r := ((knows_in 26 137 (by decide) (by kernel_rfl) rfl rfl) : Knows _ _ _ _ _ _ 30 _ _) a ww hw hf hd
                   have h140 : a.eval (.tmp 140) = Value.int .i64 r := ((knows_in 29 140 (by decide) (by kernel_rfl) rfl rfl) : Knows _ _ _ _ _ _ 30 _ _) a ww hw hf hd
                   revert h137 h140
                   generalize a.eval = ev
                   intro h137 h140
                   unfold execOp
                   simp only [h137, h140]
                   go_simp)),
                     (step_ex _ rfl (.inr ⟨20, false, 131, rfl, by decide, by kernel_rfl, rfl, fun _ _ h => h⟩) rfl (fun a ww hw hf hd => by
                   have h134 : a.eval (.tmp 134) = Value.bool true := ((knows_in 23 134 (by decide) (by kernel_rfl) rfl rfl) : Knows _ _ _ _ _ _ 31 _ _) a ww hw hf hd
                   have h141 : a.eval (.tmp 141) = Value.bool false := ((knows_in 30 141 (by decide) (by kernel_rfl) rfl rfl) : Knows _ _ _ _ _ _ 31 _ _) a ww hw hf hd
                   have hc := ec a
                   revert hc h134 h141
                   generalize a.eval = ev
                   intro hc h134 h141
                   unfold execOp
                   simp only [hc, h134, h141]
                   go_simp)), trivial⟩ ?_
                  intro val W12 hw hS _ _
                  have e111 : val 111 = Value.bool true := hS 0 111 (by decide) rfl
                  have e112 : val 112 = Value.bool false := hS 1 112 (by decide) rfl
                  have e113 : val 113 = Value.bool false := hS 2 113 (by decide) rfl
                  have e114 : val 114 = Value.agg (tc t).toArray := hS 3 114 (by decide) rfl
                  have e115 : val 115 = Value.agg (tc t).toArray := hS 4 115 (by decide) rfl
                  have e116 : val 116 = Value.bool false := hS 5 116 (by decide) rfl
                  have e117 : val 117 = Value.bool false := hS 6 117 (by decide) rfl
                  have e118 : val 118 = Value.bool false := hS 7 118 (by decide) rfl
                  have e119 : val 119 = Value.bool true := hS 8 119 (by decide) rfl
                  have e120 : val 120 = Value.pointer (some ⟨wr.heap.size, 0, none⟩) := hS 9 120 (by decide) rfl
                  have e121 : val 121 = Value.int .i64 t.1 := hS 10 121 (by decide) rfl
                  have e122 : val 122 = Value.bool true := hS 11 122 (by decide) rfl
                  have e123 : val 123 = Value.bool false := hS 12 123 (by decide) rfl
                  have e124 : val 124 = Value.bool false := hS 13 124 (by decide) rfl
                  have e125 : val 125 = Value.bool false := hS 14 125 (by decide) rfl
                  have e126 : val 126 = Value.slice A1 x.length c1x := hS 15 126 (by decide) rfl
                  have e127 : val 127 = Value.slice A2 x.length c2 := hS 16 127 (by decide) rfl
                  have e128 : val 128 = Value.bool true := hS 17 128 (by decide) rfl
                  have e129 : val 129 = Value.bool false := hS 18 129 (by decide) rfl
                  have e130 : val 130 = Value.bool false := hS 19 130 (by decide) rfl
                  have e131 : val 131 = Value.bool false := hS 20 131 (by decide) rfl
                  have e132 : val 132 = Value.int .i64 k2 := hS 21 132 (by decide) rfl
                  have e133 : val 133 = Value.bool true := hS 22 133 (by decide) rfl
                  have e134 : val 134 = Value.bool true := hS 23 134 (by decide) rfl
                  have e135 : val 135 = Value.pointer (some ⟨p, 0, none⟩) := hS 24 135 (by decide) rfl
                  have e136 : val 136 = Value.int .i64 k2 := hS 25 136 (by decide) rfl
                  have e137 : val 137 = Value.int .i64 r := hS 26 137 (by decide) rfl
                  have e138 : val 138 = Value.pointer (some ⟨q, 0, none⟩) := hS 27 138 (by decide) rfl
                  have e139 : val 139 = Value.int .i64 k2 := hS 28 139 (by decide) rfl
                  have e140 : val 140 = Value.int .i64 r := hS 29 140 (by decide) rfl
                  have e141 : val 141 = Value.bool false := hS 30 141 (by decide) rfl
                  have e142 : val 142 = Value.bool false := hS 31 142 (by decide) rfl
                  simp only [putVals, List.foldl_cons, List.foldl_nil, List.drop_succ_cons, List.drop_zero, Act.put, List.setIfInBounds_toArray, List.set_cons_succ, List.set_cons_zero, e111, e112, e113, e114, e115, e116, e117, e118, e119, e120, e121, e122, e123, e124, e125, e126, e127, e128, e129, e130, e131, e132, e133, e134, e135, e136, e137, e138, e139, e140, e141, e142]
                  clear e111 e112 e113 e114 e115 e116 e117 e118 e119 e120 e121 e122 e123 e124 e125 e126 e127 e128 e129 e130 e131 e132 e133 e134 e135 e136 e137 e138 e139 e140 e141 e142 hS
                  go_wp2
                  go_roundw
                  case rel => exact ⟨k2 + 1, hk1, by go_num, hcl.trans (Below.mono (HB11.trans (Below.mono (show Below W11.heap.size W11 W12 from hw) HB11.size)) hcl.size)⟩
                  case measure => simp [intOf]; omega
                · go_upto_region 27 with (fail)
                  refine region_spec2 32 171 (fun _ => false) [Is (Value.bool true), Is (Value.bool false), Is (Value.bool false), Is (Value.agg (tc t).toArray), Is (Value.agg (tc t).toArray), Is (Value.bool false), Is (Value.bool false), Is (Value.bool false), Is (Value.bool true), Is (Value.pointer (some ⟨wr.heap.size, 0, none⟩)), Is (Value.int .i64 t.1), Is (Value.bool true), Is (Value.bool false), Is (Value.bool false), Is (Value.bool false), Is (Value.slice A1 x.length c1x), Is (Value.slice A2 x.length c2), Is (Value.bool true), Is (Value.bool false), Is (Value.bool false), Is (Value.bool false), Is (Value.int .i64 k2), Is (Value.bool false), Is (Value.bool false), Is (undef), Is (undef), Is (undef), Is (undef), Is (undef), Is (undef), Is (undef), Is (Value.bool false)] [111, 112, 113, 114, 115, 116, 117, 118, 119, 120, 121, 122, 123, 124, 125, 126, 127, 128, 129, 130, 131, 132, 133, 134, 135, 136, 137, 138, 139, 140, 141, 142] (by kernel_rfl) (by kernel_rfl) (by kernel_rfl) (Nat.le_of_eq rfl) (grows_cons (Is.grows _) (grows_cons (Is.grows _) (grows_cons (Is.grows _) (grows_cons (Is.grows _) (grows_cons (Is.grows _) (grows_cons (Is.grows _) (grows_cons (Is.grows _) (grows_cons (Is.grows _) (grows_cons (Is.grows _) (grows_cons (Is.grows _) (grows_cons (Is.grows _) (grows_cons (Is.grows _) (grows_cons (Is.grows _) (grows_cons (Is.grows _) (grows_cons (Is.grows _) (grows_cons (Is.grows _) (grows_cons (Is.grows _) (grows_cons (Is.grows _) (grows_cons (Is.grows _) (grows_cons (Is.grows _) (grows_cons (Is.grows _) (grows_cons (Is.grows _) (grows_cons (Is.grows _) (grows_cons (Is.grows _) (grows_cons (Is.grows _) (grows_cons (Is.grows _) (grows_cons (Is.grows _) (grows_cons (Is.grows _) (grows_cons (Is.grows _) (grows_cons (Is.grows _) (grows_cons (Is.grows _) (grows_cons (Is.grows _) grows_nil))))))))))))))))))))))))))))))))
                    ⟨(step_ex _ rfl (.inl rfl) rfl (fun a ww hw hf hd => by
                   have h13 : a.eval (.tmp 13) = Value.bool true := ((knows_out 13 (by kernel_rfl) rfl) : Knows _ _ _ _ _ _ 0 _ _) a ww hw hf hd
                   revert h13
                   generalize a.eval = ev
                   intro h13
                   unfold execOp
                   simp only [h13]
                   go_simp)),
                     (step_ex _ rfl (.inl rfl) rfl (fun a ww hw hf hd => by
                   have h111 : a.eval (.tmp 111) = Value.bool true := ((knows_in 0 111 (by decide) (by kernel_rfl) rfl rfl) : Knows _ _ _ _ _ _ 1 _ _) a ww hw hf hd
                   revert h111
                   generalize a.eval = ev
                   intro h111
                   unfold execOp
                   simp only [h111]
                   go_simp)),
                     (step_ex _ rfl (.inl rfl) rfl (fun a ww hw hf hd => by
                   have h112 : a.eval (.tmp 112) = Value.bool false := ((knows_in 1 112 (by decide) (by kernel_rfl) rfl rfl) : Knows _ _ _ _ _ _ 2 _ _) a ww hw hf hd
                   revert h112
                   generalize a.eval = ev
                   intro h112
                   unfold execOp
                   simp only [h112]
                   go_simp)),
                     (step_ldV rfl (.inr ⟨2, false, 113, rfl, by decide, by kernel_rfl, rfl, fun _ _ h => h⟩) (fun _ hw => (hB9Y.next hw).rw.range) rfl Try.underlying33 rfl (szV infT (tc_len _)) rfl (knows_out 12 (by kernel_rfl) rfl)),
                     (step_ldV rfl (.inr ⟨2, false, 113, rfl, by decide, by kernel_rfl, rfl, fun _ _ h => h⟩) (fun _ hw => (hB7Y.next hw).rw.range) rfl Try.underlying33 rfl (szV infT (tc_len _)) rfl (knows_out 11 (by kernel_rfl) rfl)),
                     (step_ex (Value.bool false) rfl (.inr ⟨2, false, 113, rfl, by decide, by kernel_rfl, rfl, fun _ _ h => h⟩) rfl (fun a ww hw hf hd => exec_neT rfl (((knows_in 3 114 (by decide) (by kernel_rfl) rfl rfl) : Knows _ _ _ _ _ _ 5 _ (Value.agg (tc t).toArray)) a ww hw hf hd) (((knows_in 4 115 (by decide) (by kernel_rfl) rfl rfl) : Knows _ _ _ _ _ _ 5 _ (Value.agg (tc t).toArray)) a ww hw hf hd) hT hT hTT ww)),
                     (step_ex _ rfl (.inl rfl) rfl (fun a ww hw hf hd => by
                   have h113 : a.eval (.tmp 113) = Value.bool false := ((knows_in 2 113 (by decide) (by kernel_rfl) rfl rfl) : Knows _ _ _ _ _ _ 6 _ _) a ww hw hf hd
                   have h116 : a.eval (.tmp 116) = Value.bool false := ((knows_in 5 116 (by decide) (by kernel_rfl) rfl rfl) : Knows _ _ _ _ _ _ 6 _ _) a ww hw hf hd
                   have hc := ec a
                   revert hc h113 h116
                   generalize a.eval = ev
                   intro hc h113 h116
                   unfold execOp
                   simp only [hc, h113, h116]
                   go_simp)),
                     (step_ex _ rfl (.inl rfl) rfl (fun a ww hw hf hd => by
                   have h117 : a.eval (.tmp 117) = Value.bool false := ((knows_in 6 117 (by decide) (by kernel_rfl) rfl rfl) : Knows _ _ _ _ _ _ 7 _ _) a ww hw hf hd
                   revert h117
                   generalize a.eval = ev
                   intro h117
                   unfold execOp
                   simp only [h117]
                   go_simp)),
                     (step_ex _ rfl (.inr ⟨7, false, 118, rfl, by decide, by kernel_rfl, rfl, fun _ _ h => h⟩) rfl (fun a ww hw hf hd => by
                   have h15 : a.eval (.tmp 15) = Value.bool true := ((knows_out 15 (by kernel_rfl) rfl) : Knows _ _ _ _ _ _ 8 _ _) a ww hw hf hd
                   revert h15
                   generalize a.eval = ev
                   intro h15
                   unfold execOp
                   simp only [h15]
                   go_simp)),
                     (step_ex _ rfl (.inr ⟨7, false, 118, rfl, by decide, by kernel_rfl, rfl, fun _ _ h => h⟩) rfl (fun a ww hw hf hd => by
                   have h11 : a.eval (.tmp 11) = Value.pointer (some ⟨wr.heap.size, 0, none⟩) := ((knows_out 11 (by kernel_rfl) rfl) : Knows _ _ _ _ _ _ 9 _ _) a ww hw hf hd
                   revert h11
                   generalize a.eval = ev
                   intro h11
                   unfold execOp
                   simp only [h11]
                   go_simp)),
                     (step_ex _ rfl (.inr ⟨7, false, 118, rfl, by decide, by kernel_rfl, rfl, fun _ _ h => h⟩) rfl (fun a ww hw hf hd => by
                   have h120 : a.eval (.tmp 120) = Value.pointer (some ⟨wr.heap.size, 0, none⟩) := ((knows_in 9 120 (by decide) (by kernel_rfl) rfl rfl) : Knows _ _ _ _ _ _ 10 _ _) a ww hw hf hd
                   have f0 : ww.cell? ⟨wr.heap.size, 0, none⟩ = some (Value.int .i64 t.1) := cellB y0Y hw
                   revert h120
                   generalize a.eval = ev
                   intro h120
                   unfold execOp
                   simp only [h120]
                   go_simp)),
                     (step_ex _ rfl (.inr ⟨7, false, 118, rfl, by decide, by kernel_rfl, rfl, fun _ _ h => h⟩) rfl (fun a ww hw hf hd => by
                   have h121 : a.eval (.tmp 121) = Value.int .i64 t.1 := ((knows_in 10 121 (by decide) (by kernel_rfl) rfl rfl) : Knows _ _ _ _ _ _ 11 _ _) a ww hw hf hd
                   have f0 := beq_iff_eq.1 e9
                   have hc := ec a
                   revert hc h121
                   generalize a.eval = ev
                   intro hc h121
                   unfold execOp
                   simp only [hc, h121]
                   go_simp)),
                     (step_ex _ rfl (.inr ⟨7, false, 118, rfl, by decide, by kernel_rfl, rfl, fun _ _ h => h⟩) rfl (fun a ww hw hf hd => by
                   have h119 : a.eval (.tmp 119) = Value.bool true := ((knows_in 8 119 (by decide) (by kernel_rfl) rfl rfl) : Knows _ _ _ _ _ _ 12 _ _) a ww hw hf hd
                   have h122 : a.eval (.tmp 122) = Value.bool true := ((knows_in 11 122 (by decide) (by kernel_rfl) rfl rfl) : Knows _ _ _ _ _ _ 12 _ _) a ww hw hf hd
                   revert h119 h122
                   generalize a.eval = ev
                   intro h119 h122
                   unfold execOp
                   simp only [h119, h122]
                   go_simp)),
                     (step_ex _ rfl (.inl rfl) rfl (fun a ww hw hf hd => by
                   have h118 : a.eval (.tmp 118) = Value.bool false := ((knows_in 7 118 (by decide) (by kernel_rfl) rfl rfl) : Knows _ _ _ _ _ _ 13 _ _) a ww hw hf hd
                   have h123 : a.eval (.tmp 123) = Value.bool false := ((knows_in 12 123 (by decide) (by kernel_rfl) rfl rfl) : Knows _ _ _ _ _ _ 13 _ _) a ww hw hf hd
                   have hc := ec a
                   revert hc h118 h123
                   generalize a.eval = ev
                   intro hc h118 h123
                   unfold execOp
                   simp only [hc, h118, h123]
                   go_simp)),
                     (step_ex _ rfl (.inl rfl) rfl (fun a ww hw hf hd => by
                   have h124 : a.eval (.tmp 124) = Value.bool false := ((knows_in 13 124 (by decide) (by kernel_rfl) rfl rfl) : Knows _ _ _ _ _ _ 14 _ _) a ww hw hf hd
                   revert h124
                   generalize a.eval = ev
                   intro h124
                   unfold execOp
                   simp only [h124]
                   go_simp)),
                     (step_ex _ rfl (.inr ⟨14, false, 125, rfl, by decide, by kernel_rfl, rfl, fun _ _ h => h⟩) rfl (fun a ww hw hf hd => by
                   have h14 : a.eval (.tmp 14) = Value.slice A1 x.length c1x := ((knows_out 14 (by kernel_rfl) rfl) : Knows _ _ _ _ _ _ 15 _ _) a ww hw hf hd
                   revert h14
                   generalize a.eval = ev
                   intro h14
                   unfold execOp
                   simp only [h14]
                   go_simp)),
                     (step_ex _ rfl (.inr ⟨14, false, 125, rfl, by decide, by kernel_rfl, rfl, fun _ _ h => h⟩) rfl (fun a ww hw hf hd => by
                   have h16 : a.eval (.tmp 16) = Value.slice A2 x.length c2 := ((knows_out 16 (by kernel_rfl) rfl) : Knows _ _ _ _ _ _ 16 _ _) a ww hw hf hd
                   revert h16
                   generalize a.eval = ev
                   intro h16
                   unfold execOp
                   simp only [h16]
                   go_simp)),
                     (step_cw rfl (.inr ⟨14, false, 125, rfl, by decide, by kernel_rfl, rfl, fun _ _ h => h⟩) rfl cxT13 rfl (fun aa ww hw hf hd => ⟨_, (two_args (knows_in 15 126 (by decide) (by kernel_rfl) rfl rfl) (knows_in 16 127 (by decide) (by kernel_rfl) rfl rfl)) aa ww hw hf hd, rsame_any A1 A2 x.length x.length c1x c2 x x true ww hx4 rfl rfl (decide_eq_true rfl) (hN1Y.below hw) (hN2Y.below hw)⟩)),
                     (step_ex _ rfl (.inr ⟨14, false, 125, rfl, by decide, by kernel_rfl, rfl, fun _ _ h => h⟩) rfl (fun a ww hw hf hd => by
                   have h128 : a.eval (.tmp 128) = Value.bool true := ((knows_in 17 128 (by decide) (by kernel_rfl) rfl rfl) : Knows _ _ _ _ _ _ 18 _ _) a ww hw hf hd
                   revert h128
                   generalize a.eval = ev
                   intro h128
                   unfold execOp
                   simp only [h128]
                   go_simp)),
                     (step_ex _ rfl (.inl rfl) rfl (fun a ww hw hf hd => by
                   have h125 : a.eval (.tmp 125) = Value.bool false := ((knows_in 14 125 (by decide) (by kernel_rfl) rfl rfl) : Knows _ _ _ _ _ _ 19 _ _) a ww hw hf hd
                   have h129 : a.eval (.tmp 129) = Value.bool false := ((knows_in 18 129 (by decide) (by kernel_rfl) rfl rfl) : Knows _ _ _ _ _ _ 19 _ _) a ww hw hf hd
                   have hc := ec a
                   revert hc h125 h129
                   generalize a.eval = ev
                   intro hc h125 h129
                   unfold execOp
                   simp only [hc, h125, h129]
                   go_simp)),
                     (step_ex _ rfl (.inl rfl) rfl (fun a ww hw hf hd => by
                   have h130 : a.eval (.tmp 130) = Value.bool false := ((knows_in 19 130 (by decide) (by kernel_rfl) rfl rfl) : Knows _ _ _ _ _ _ 20 _ _) a ww hw hf hd
                   revert h130
                   generalize a.eval = ev
                   intro h130
                   unfold execOp
                   simp only [h130]
                   go_simp)),
                     (step_ex _ rfl (.inr ⟨20, false, 131, rfl, by decide, by kernel_rfl, rfl, fun _ _ h => h⟩) rfl (fun a ww hw hf hd => by
                   have h10 : a.eval (.tmp 10) = Value.int .i64 k2 := ((knows_out 10 (by kernel_rfl) rfl) : Knows _ _ _ _ _ _ 21 _ _) a ww hw hf hd
                   revert h10
                   generalize a.eval = ev
                   intro h10
                   unfold execOp
                   simp only [h10]
                   go_simp)),
                     (step_ex _ rfl (.inr ⟨20, false, 131, rfl, by decide, by kernel_rfl, rfl, fun _ _ h => h⟩) rfl (fun a ww hw hf hd => by
                   have h132 : a.eval (.tmp 132) = Value.int .i64 k2 := ((knows_in 21 132 (by decide) (by kernel_rfl) rfl rfl) : Knows _ _ _ _ _ _ 22 _ _) a ww hw hf hd
                   have f0 := h12
                   have hc := ec a
                   revert hc h132
                   generalize a.eval = ev
                   intro hc h132
                   unfold execOp
                   simp only [hc, h132]
                   go_simp)),
                     (step_ex _ rfl (.inr ⟨20, false, 131, rfl, by decide, by kernel_rfl, rfl, fun _ _ h => h⟩) rfl (fun a ww hw hf hd => by
                   have h133 : a.eval (.tmp 133) = Value.bool false := ((knows_in 22 133 (by decide) (by kernel_rfl) rfl rfl) : Knows _ _ _ _ _ _ 23 _ _) a ww hw hf hd
                   revert h133
                   generalize a.eval = ev
                   intro h133
                   unfold execOp
                   simp only [h133]
                   go_simp)),
                     (step_off rfl ⟨23, true, 134, rfl, by decide, by kernel_rfl, rfl, fun _ _ h => .inl h⟩ (fun _ => rfl)),
                     (step_off rfl ⟨23, true, 134, rfl, by decide, by kernel_rfl, rfl, fun _ _ h => .inl h⟩ (fun _ => rfl)),
                     (step_off rfl ⟨23, true, 134, rfl, by decide, by kernel_rfl, rfl, fun _ _ h => .inl h⟩ (fun _ => rfl)),
                     (step_off rfl ⟨23, true, 134, rfl, by decide, by kernel_rfl, rfl, fun _ _ h => .inl h⟩ (fun _ => rfl)),
                     (step_off rfl ⟨23, true, 134, rfl, by decide, by kernel_rfl, rfl, fun _ _ h => .inl h⟩ (fun _ => rfl)),
                     (step_off rfl ⟨23, true, 134, rfl, by decide, by kernel_rfl, rfl, fun _ _ h => .inl h⟩ (fun _ => rfl)),
                     (step_off rfl ⟨23, true, 134, rfl, by decide, by kernel_rfl, rfl, fun _ _ h => .inl h⟩ (fun _ => rfl)),
                     (step_ex _ rfl (.inr ⟨20, false, 131, rfl, by decide, by kernel_rfl, rfl, fun _ _ h => h⟩) rfl (fun a ww hw hf hd => by
                   have h134 : a.eval (.tmp 134) = Value.bool false := ((knows_in 23 134 (by decide) (by kernel_rfl) rfl rfl) : Knows _ _ _ _ _ _ 31 _ _) a ww hw hf hd
                   have hc := ec a
                   revert hc h134
                   generalize a.eval = ev
                   intro hc h134
                   unfold execOp
                   simp only [hc, h134]
                   go_simp)), trivial⟩ ?_
                  intro val W12 hw hS _ _
                  have e111 : val 111 = Value.bool true := hS 0 111 (by decide) rfl
                  have e112 : val 112 = Value.bool false := hS 1 112 (by decide) rfl
                  have e113 : val 113 = Value.bool false := hS 2 113 (by decide) rfl
                  have e114 : val 114 = Value.agg (tc t).toArray := hS 3 114 (by decide) rfl
                  have e115 : val 115 = Value.agg (tc t).toArray := hS 4 115 (by decide) rfl
                  have e116 : val 116 = Value.bool false := hS 5 116 (by decide) rfl
                  have e117 : val 117 = Value.bool false := hS 6 117 (by decide) rfl
                  have e118 : val 118 = Value.bool false := hS 7 118 (by decide) rfl
                  have e119 : val 119 = Value.bool true := hS 8 119 (by decide) rfl
                  have e120 : val 120 = Value.pointer (some ⟨wr.heap.size, 0, none⟩) := hS 9 120 (by decide) rfl
                  have e121 : val 121 = Value.int .i64 t.1 := hS 10 121 (by decide) rfl
                  have e122 : val 122 = Value.bool true := hS 11 122 (by decide) rfl
                  have e123 : val 123 = Value.bool false := hS 12 123 (by decide) rfl
                  have e124 : val 124 = Value.bool false := hS 13 124 (by decide) rfl
                  have e125 : val 125 = Value.bool false := hS 14 125 (by decide) rfl
                  have e126 : val 126 = Value.slice A1 x.length c1x := hS 15 126 (by decide) rfl
                  have e127 : val 127 = Value.slice A2 x.length c2 := hS 16 127 (by decide) rfl
                  have e128 : val 128 = Value.bool true := hS 17 128 (by decide) rfl
                  have e129 : val 129 = Value.bool false := hS 18 129 (by decide) rfl
                  have e130 : val 130 = Value.bool false := hS 19 130 (by decide) rfl
                  have e131 : val 131 = Value.bool false := hS 20 131 (by decide) rfl
                  have e132 : val 132 = Value.int .i64 k2 := hS 21 132 (by decide) rfl
                  have e133 : val 133 = Value.bool false := hS 22 133 (by decide) rfl
                  have e134 : val 134 = Value.bool false := hS 23 134 (by decide) rfl
                  have e135 : val 135 = undef := hS 24 135 (by decide) rfl
                  have e136 : val 136 = undef := hS 25 136 (by decide) rfl
                  have e137 : val 137 = undef := hS 26 137 (by decide) rfl
                  have e138 : val 138 = undef := hS 27 138 (by decide) rfl
                  have e139 : val 139 = undef := hS 28 139 (by decide) rfl
                  have e140 : val 140 = undef := hS 29 140 (by decide) rfl
                  have e141 : val 141 = undef := hS 30 141 (by decide) rfl
                  have e142 : val 142 = Value.bool false := hS 31 142 (by decide) rfl
                  simp only [putVals, List.foldl_cons, List.foldl_nil, List.drop_succ_cons, List.drop_zero, Act.put, List.setIfInBounds_toArray, List.set_cons_succ, List.set_cons_zero, e111, e112, e113, e114, e115, e116, e117, e118, e119, e120, e121, e122, e123, e124, e125, e126, e127, e128, e129, e130, e131, e132, e133, e134, e135, e136, e137, e138, e139, e140, e141, e142]
                  clear e111 e112 e113 e114 e115 e116 e117 e118 e119 e120 e121 e122 e123 e124 e125 e126 e127 e128 e129 e130 e131 e132 e133 e134 e135 e136 e137 e138 e139 e140 e141 e142 hS
                  go_wp2
                  go_roundw
                  case rel => exact ⟨k2 + 1, hk1, by go_num, hcl.trans (Below.mono (HB11.trans (Below.mono (show Below W11.heap.size W11 W12 from hw) HB11.size)) hcl.size)⟩
                  case measure => simp [intOf]; omega
              · have hgetb : ∀ ww, Below wr.heap.size wr ww → Calls Try.prog 12 #[.pointer (some ⟨p, 0, none⟩), .int .i64 k2] ww fun e w' => e = .returned (.tuple #[.slice none 0 0, .bool false]) ∧ ww = w' := fun ww h => bytes_no _ p L X k2 ww (hCS.next h) (fun m u e hm => by
                  obtain rfl : k2 = m := by omega
                  rw [ht] at hm; injection hm with hm; rw [← hm]; exact h9)
                obtain ⟨W7, hW7, y0, y1, y2, hb7, hB7t⟩ := term_world t wr
                have HW7 := hid hW7
                have e9 : (t.1 == (9 : Int)) = false := beq_false_of_ne h9
                have hx4 : ([] : List Int).length ≤ 4096 := by decide
                clear hW7 hP hCS hcell hWF ht hz hr hlt hk2 y1 hAL h9
                go_upto_region 22 with (fail)
                rw [HW7.out]
                clear x0 x1 x2 HW7
                go_upto_region 27 with (first
                  | (go_at_call 11; refine (hget _ hb7).mono ?_; rintro e w8 ⟨rfl, hb8⟩; obtain ⟨W9, hW9, _, _, _, hb9, hB9t⟩ := term_world t w8; have hb79 : Below W7.heap.size W7 W9 := hb8.trans (Below.mono hb9 hb8.size); have hb09 : Below wr.heap.size wr W9 := hb7.trans (Below.mono hb79 hb7.size))
                  | (go_at_call 12; refine (hgetb _ hb09).mono ?_; rintro e W10 ⟨rfl, rfl⟩; have y0Y := cellB y0 hb79))
                have HB11 := hb09
                have hB7Y := hB7t.next hb79
                have hB9Y := hB9t
                have b4Y := cellB b4r hb09
                have hN1Y : Nums W9 .u8 none [] := Nums.nil
                have hN2Y : Nums W9 .u8 none [] := Nums.nil
                clear y0 hB7t hB9t hgetb hget hb79 hb09 hb7 hb8 hb9 hW9
                have hTT : decide (t = t) = true := decide_eq_true rfl
                by_cases h12 : (k2 : Int) < 12
                · have hrs := hrs (by omega)
                  refine region_spec2 32 171 (fun _ => false) [Is (Value.bool true), Is (Value.bool false), Is (Value.bool false), Is (Value.agg (tc t).toArray), Is (Value.agg (tc t).toArray), Is (Value.bool false), Is (Value.bool false), Is (Value.bool false), Is (Value.bool false), Is (Value.pointer (some ⟨wr.heap.size, 0, none⟩)), Is (Value.int .i64 t.1), Is (Value.bool false), Is (Value.bool false), Is (Value.bool false), Is (Value.bool false), Is (Value.slice none 0 0), Is (Value.slice none 0 0), Is (Value.bool true), Is (Value.bool false), Is (Value.bool false), Is (Value.bool false), Is (Value.int .i64 k2), Is (Value.bool true), Is (Value.bool true), Is (Value.pointer (some ⟨p, 0, none⟩)), Is (Value.int .i64 k2), Is (Value.int .i64 r), Is (Value.pointer (some ⟨q, 0, none⟩)), Is (Value.int .i64 k2), Is (Value.int .i64 r), Is (Value.bool false), Is (Value.bool false)] [111, 112, 113, 114, 115, 116, 117, 118, 119, 120, 121, 122, 123, 124, 125, 126, 127, 128, 129, 130, 131, 132, 133, 134, 135, 136, 137, 138, 139, 140, 141, 142] (by kernel_rfl) (by kernel_rfl) (by kernel_rfl) (Nat.le_of_eq rfl) (grows_cons (Is.grows _) (grows_cons (Is.grows _) (grows_cons (Is.grows _) (grows_cons (Is.grows _) (grows_cons (Is.grows _) (grows_cons (Is.grows _) (grows_cons (Is.grows _) (grows_cons (Is.grows _) (grows_cons (Is.grows _) (grows_cons (Is.grows _) (grows_cons (Is.grows _) (grows_cons (Is.grows _) (grows_cons (Is.grows _) (grows_cons (Is.grows _) (grows_cons (Is.grows _) (grows_cons (Is.grows _) (grows_cons (Is.grows _) (grows_cons (Is.grows _) (grows_cons (Is.grows _) (grows_cons (Is.grows _) (grows_cons (Is.grows _) (grows_cons (Is.grows _) (grows_cons (Is.grows _) (grows_cons (Is.grows _) (grows_cons (Is.grows _) (grows_cons (Is.grows _) (grows_cons (Is.grows _) (grows_cons (Is.grows _) (grows_cons (Is.grows _) (grows_cons (Is.grows _) (grows_cons (Is.grows _) (grows_cons (Is.grows _) grows_nil))))))))))))))))))))))))))))))))
                    ⟨(step_ex _ rfl (.inl rfl) rfl (fun a ww hw hf hd => by
                   have h13 : a.eval (.tmp 13) = Value.bool true := ((knows_out 13 (by kernel_rfl) rfl) : Knows _ _ _ _ _ _ 0 _ _) a ww hw hf hd
                   revert h13
                   generalize a.eval = ev
                   intro h13
                   unfold execOp
                   simp only [h13]
                   go_simp)),
                     (step_ex _ rfl (.inl rfl) rfl (fun a ww hw hf hd => by
                   have h111 : a.eval (.tmp 111) = Value.bool true := ((knows_in 0 111 (by decide) (by kernel_rfl) rfl rfl) : Knows _ _ _ _ _ _ 1 _ _) a ww hw hf hd
                   revert h111
                   generalize a.eval = ev
                   intro h111
                   unfold execOp
                   simp only [h111]
                   go_simp)),
                     (step_ex _ rfl (.inl rfl) rfl (fun a ww hw hf hd => by
                   have h112 : a.eval (.tmp 112) = Value.bool false := ((knows_in 1 112 (by decide) (by kernel_rfl) rfl rfl) : Knows _ _ _ _ _ _ 2 _ _) a ww hw hf hd
                   revert h112
                   generalize a.eval = ev
                   intro h112
                   unfold execOp
                   simp only [h112]
                   go_simp)),
                     (step_ldV rfl (.inr ⟨2, false, 113, rfl, by decide, by kernel_rfl, rfl, fun _ _ h => h⟩) (fun _ hw => (hB9Y.next hw).rw.range) rfl Try.underlying33 rfl (szV infT (tc_len _)) rfl (knows_out 12 (by kernel_rfl) rfl)),
                     (step_ldV rfl (.inr ⟨2, false, 113, rfl, by decide, by kernel_rfl, rfl, fun _ _ h => h⟩) (fun _ hw => (hB7Y.next hw).rw.range) rfl Try.underlying33 rfl (szV infT (tc_len _)) rfl (knows_out 11 (by kernel_rfl) rfl)),
                     (step_ex (Value.bool false) rfl (.inr ⟨2, false, 113, rfl, by decide, by kernel_rfl, rfl, fun _ _ h => h⟩) rfl (fun a ww hw hf hd => exec_neT rfl (((knows_in 3 114 (by decide) (by kernel_rfl) rfl rfl) : Knows _ _ _ _ _ _ 5 _ (Value.agg (tc t).toArray)) a ww hw hf hd) (((knows_in 4 115 (by decide) (by kernel_rfl) rfl rfl) : Knows _ _ _ _ _ _ 5 _ (Value.agg (tc t).toArray)) a ww hw hf hd) hT hT hTT ww)),
                     (step_ex _ rfl (.inl rfl) rfl (fun a ww hw hf hd => by
                   have h113 : a.eval (.tmp 113) = Value.bool false := ((knows_in 2 113 (by decide) (by kernel_rfl) rfl rfl) : Knows _ _ _ _ _ _ 6 _ _) a ww hw hf hd
                   have h116 : a.eval (.tmp 116) = Value.bool false := ((knows_in 5 116 (by decide) (by kernel_rfl) rfl rfl) : Knows _ _ _ _ _ _ 6 _ _) a ww hw hf hd
                   have hc := ec a
                   revert hc h113 h116
                   generalize a.eval = ev
                   intro hc h113 h116
                   unfold execOp
                   simp only [hc, h113, h116]
                   go_simp)),
                     (step_ex _ rfl (.inl rfl) rfl (fun a ww hw hf hd => by
                   have h117 : a.eval (.tmp 117) = Value.bool false := ((knows_in 6 117 (by decide) (by kernel_rfl) rfl rfl) : Knows _ _ _ _ _ _ 7 _ _) a ww hw hf hd
                   revert h117
                   generalize a.eval = ev
                   intro h117
                   unfold execOp
                   simp only [h117]
                   go_simp)),
                     (step_ex _ rfl (.inr ⟨7, false, 118, rfl, by decide, by kernel_rfl, rfl, fun _ _ h => h⟩) rfl (fun a ww hw hf hd => by
                   have h15 : a.eval (.tmp 15) = Value.bool false := ((knows_out 15 (by kernel_rfl) rfl) : Knows _ _ _ _ _ _ 8 _ _) a ww hw hf hd
                   revert h15
                   generalize a.eval = ev
                   intro h15
                   unfold execOp
                   simp only [h15]
                   go_simp)),
                     (step_ex _ rfl (.inr ⟨7, false, 118, rfl, by decide, by kernel_rfl, rfl, fun _ _ h => h⟩) rfl (fun a ww hw hf hd => by
                   have h11 : a.eval (.tmp 11) = Value.pointer (some ⟨wr.heap.size, 0, none⟩) := ((knows_out 11 (by kernel_rfl) rfl) : Knows _ _ _ _ _ _ 9 _ _) a ww hw hf hd
                   revert h11
                   generalize a.eval = ev
                   intro h11
                   unfold execOp
                   simp only [h11]
                   go_simp)),
                     (step_ex _ rfl (.inr ⟨7, false, 118, rfl, by decide, by kernel_rfl, rfl, fun _ _ h => h⟩) rfl (fun a ww hw hf hd => by
                   have h120 : a.eval (.tmp 120) = Value.pointer (some ⟨wr.heap.size, 0, none⟩) := ((knows_in 9 120 (by decide) (by kernel_rfl) rfl rfl) : Knows _ _ _ _ _ _ 10 _ _) a ww hw hf hd
                   have f0 : ww.cell? ⟨wr.heap.size, 0, none⟩ = some (Value.int .i64 t.1) := cellB y0Y hw
                   revert h120
                   generalize a.eval = ev
                   intro h120
                   unfold execOp
                   simp only [h120]
                   go_simp)),
                     (step_ex _ rfl (.inr ⟨7, false, 118, rfl, by decide, by kernel_rfl, rfl, fun _ _ h => h⟩) rfl (fun a ww hw hf hd => by
                   have h121 : a.eval (.tmp 121) = Value.int .i64 t.1 := ((knows_in 10 121 (by decide) (by kernel_rfl) rfl rfl) : Knows _ _ _ _ _ _ 11 _ _) a ww hw hf hd
                   have f0 := ne_of_beq_false e9
                   have hc := ec a
                   revert hc h121
                   generalize a.eval = ev
                   intro hc h121
                   unfold execOp
                   simp only [hc, h121]
                   go_simp)),
                     (step_ex _ rfl (.inr ⟨7, false, 118, rfl, by decide, by kernel_rfl, rfl, fun _ _ h => h⟩) rfl (fun a ww hw hf hd => by
                   have h119 : a.eval (.tmp 119) = Value.bool false := ((knows_in 8 119 (by decide) (by kernel_rfl) rfl rfl) : Knows _ _ _ _ _ _ 12 _ _) a ww hw hf hd
                   have h122 : a.eval (.tmp 122) = Value.bool false := ((knows_in 11 122 (by decide) (by kernel_rfl) rfl rfl) : Knows _ _ _ _ _ _ 12 _ _) a ww hw hf hd
                   revert h119 h122
                   generalize a.eval = ev
                   intro h119 h122
                   unfold execOp
                   simp only [h119, h122]
                   go_simp)),
                     (step_ex _ rfl (.inl rfl) rfl (fun a ww hw hf hd => by
                   have h118 : a.eval (.tmp 118) = Value.bool false := ((knows_in 7 118 (by decide) (by kernel_rfl) rfl rfl) : Knows _ _ _ _ _ _ 13 _ _) a ww hw hf hd
                   have h123 : a.eval (.tmp 123) = Value.bool false := ((knows_in 12 123 (by decide) (by kernel_rfl) rfl rfl) : Knows _ _ _ _ _ _ 13 _ _) a ww hw hf hd
                   have hc := ec a
                   revert hc h118 h123
                   generalize a.eval = ev
                   intro hc h118 h123
                   unfold execOp
                   simp only [hc, h118, h123]
                   go_simp)),
                     (step_ex _ rfl (.inl rfl) rfl (fun a ww hw hf hd => by
                   have h124 : a.eval (.tmp 124) = Value.bool false := ((knows_in 13 124 (by decide) (by kernel_rfl) rfl rfl) : Knows _ _ _ _ _ _ 14 _ _) a ww hw hf hd
                   revert h124
                   generalize a.eval = ev
                   intro h124
                   unfold execOp
                   simp only [h124]
                   go_simp)),
                     (step_ex _ rfl (.inr ⟨14, false, 125, rfl, by decide, by kernel_rfl, rfl, fun _ _ h => h⟩) rfl (fun a ww hw hf hd => by
                   have h14 : a.eval (.tmp 14) = Value.slice none 0 0 := ((knows_out 14 (by kernel_rfl) rfl) : Knows _ _ _ _ _ _ 15 _ _) a ww hw hf hd
                   revert h14
                   generalize a.eval = ev
                   intro h14
                   unfold execOp
                   simp only [h14]
                   go_simp)),
                     (step_ex _ rfl (.inr ⟨14, false, 125, rfl, by decide, by kernel_rfl, rfl, fun _ _ h => h⟩) rfl (fun a ww hw hf hd => by
                   have h16 : a.eval (.tmp 16) = Value.slice none 0 0 := ((knows_out 16 (by kernel_rfl) rfl) : Knows _ _ _ _ _ _ 16 _ _) a ww hw hf hd
                   revert h16
                   generalize a.eval = ev
                   intro h16
                   unfold execOp
                   simp only [h16]
                   go_simp)),
                     (step_cw rfl (.inr ⟨14, false, 125, rfl, by decide, by kernel_rfl, rfl, fun _ _ h => h⟩) rfl cxT13 rfl (fun aa ww hw hf hd => ⟨_, (two_args (knows_in 15 126 (by decide) (by kernel_rfl) rfl rfl) (knows_in 16 127 (by decide) (by kernel_rfl) rfl rfl)) aa ww hw hf hd, rsame_any none none 0 0 0 0 [] [] true ww (Nat.zero_le _) rfl rfl (decide_eq_true rfl) Nums.nil Nums.nil⟩)),
                     (step_ex _ rfl (.inr ⟨14, false, 125, rfl, by decide, by kernel_rfl, rfl, fun _ _ h => h⟩) rfl (fun a ww hw hf hd => by
                   have h128 : a.eval (.tmp 128) = Value.bool true := ((knows_in 17 128 (by decide) (by kernel_rfl) rfl rfl) : Knows _ _ _ _ _ _ 18 _ _) a ww hw hf hd
                   revert h128
                   generalize a.eval = ev
                   intro h128
                   unfold execOp
                   simp only [h128]
                   go_simp)),
                     (step_ex _ rfl (.inl rfl) rfl (fun a ww hw hf hd => by
                   have h125 : a.eval (.tmp 125) = Value.bool false := ((knows_in 14 125 (by decide) (by kernel_rfl) rfl rfl) : Knows _ _ _ _ _ _ 19 _ _) a ww hw hf hd
                   have h129 : a.eval (.tmp 129) = Value.bool false := ((knows_in 18 129 (by decide) (by kernel_rfl) rfl rfl) : Knows _ _ _ _ _ _ 19 _ _) a ww hw hf hd
                   have hc := ec a
                   revert hc h125 h129
                   generalize a.eval = ev
                   intro hc h125 h129
                   unfold execOp
                   simp only [hc, h125, h129]
                   go_simp)),
                     (step_ex _ rfl (.inl rfl) rfl (fun a ww hw hf hd => by
                   have h130 : a.eval (.tmp 130) = Value.bool false := ((knows_in 19 130 (by decide) (by kernel_rfl) rfl rfl) : Knows _ _ _ _ _ _ 20 _ _) a ww hw hf hd
                   revert h130
                   generalize a.eval = ev
                   intro h130
                   unfold execOp
                   simp only [h130]
                   go_simp)),
                     (step_ex _ rfl (.inr ⟨20, false, 131, rfl, by decide, by kernel_rfl, rfl, fun _ _ h => h⟩) rfl (fun a ww hw hf hd => by
                   have h10 : a.eval (.tmp 10) = Value.int .i64 k2 := ((knows_out 10 (by kernel_rfl) rfl) : Knows _ _ _ _ _ _ 21 _ _) a ww hw hf hd
                   revert h10
                   generalize a.eval = ev
                   intro h10
                   unfold execOp
                   simp only [h10]
                   go_simp)),
                     (step_ex _ rfl (.inr ⟨20, false, 131, rfl, by decide, by kernel_rfl, rfl, fun _ _ h => h⟩) rfl (fun a ww hw hf hd => by
                   have h132 : a.eval (.tmp 132) = Value.int .i64 k2 := ((knows_in 21 132 (by decide) (by kernel_rfl) rfl rfl) : Knows _ _ _ _ _ _ 22 _ _) a ww hw hf hd
                   have f0 := h12
                   have hc := ec a
                   revert hc h132
                   generalize a.eval = ev
                   intro hc h132
                   unfold execOp
                   simp only [hc, h132]
                   go_simp)),
                     (step_ex _ rfl (.inr ⟨20, false, 131, rfl, by decide, by kernel_rfl, rfl, fun _ _ h => h⟩) rfl (fun a ww hw hf hd => by
                   have h133 : a.eval (.tmp 133) = Value.bool true := ((knows_in 22 133 (by decide) (by kernel_rfl) rfl rfl) : Knows _ _ _ _ _ _ 23 _ _) a ww hw hf hd
                   revert h133
                   generalize a.eval = ev
                   intro h133
                   unfold execOp
                   simp only [h133]
                   go_simp)),
                     (step_ex _ rfl (.inr ⟨23, true, 134, rfl, by decide, by kernel_rfl, rfl, fun _ _ h => h⟩) rfl (fun a ww hw hf hd => by
                   have h3 : a.eval (.tmp 3) = Value.pointer (some ⟨p, 0, none⟩) := ((knows_out 3 (by kernel_rfl) rfl) : Knows _ _ _ _ _ _ 24 _ _) a ww hw hf hd
                   revert h3
                   generalize a.eval = ev
                   intro h3
                   unfold execOp
                   simp only [h3]
                   go_simp)),
                     (step_ex _ rfl (.inr ⟨23, true, 134, rfl, by decide, by kernel_rfl, rfl, fun _ _ h => h⟩) rfl (fun a ww hw hf hd => by
                   have h10 : a.eval (.tmp 10) = Value.int .i64 k2 := ((knows_out 10 (by kernel_rfl) rfl) : Knows _ _ _ _ _ _ 25 _ _) a ww hw hf hd
                   revert h10
                   generalize a.eval = ev
                   intro h10
                   unfold execOp
                   simp only [h10]
                   go_simp)),
                     (step_cw rfl (.inr ⟨23, true, 134, rfl, by decide, by kernel_rfl, rfl, fun _ _ h => h⟩) rfl cxT14 rfl (fun aa ww hw hf hd => ⟨_, (two_args (knows_in 24 135 (by decide) (by kernel_rfl) rfl rfl) (knows_in 25 136 (by decide) (by kernel_rfl) rfl rfl)) aa ww hw hf hd, hsz ww (HB11.trans (Below.mono (show Below W9.heap.size W9 ww from hw) HB11.size))⟩)),
                     (step_ex _ rfl (.inr ⟨23, true, 134, rfl, by decide, by kernel_rfl, rfl, fun _ _ h => h⟩) rfl (fun a ww hw hf hd => by
                   have h4 : a.eval (.tmp 4) = Value.pointer (some ⟨(q + 1), 0, none⟩) := ((knows_out 4 (by kernel_rfl) rfl) : Knows _ _ _ _ _ _ 27 _ _) a ww hw hf hd
                   have f0 : ww.cell? ⟨(q + 1), 0, none⟩ = some (Value.pointer (some ⟨q, 0, none⟩)) := cellB b4Y hw
                   revert h4
                   generalize a.eval = ev
                   intro h4
                   unfold execOp
                   simp only [h4]
                   go_simp)),
                     (step_ex _ rfl (.inr ⟨23, true, 134, rfl, by decide, by kernel_rfl, rfl, fun _ _ h => h⟩) rfl (fun a ww hw hf hd => by
                   have h10 : a.eval (.tmp 10) = Value.int .i64 k2 := ((knows_out 10 (by kernel_rfl) rfl) : Knows _ _ _ _ _ _ 28 _ _) a ww hw hf hd
                   revert h10
                   generalize a.eval = ev
                   intro h10
                   unfold execOp
                   simp only [h10]
                   go_simp)),
                     (step_cw rfl (.inr ⟨23, true, 134, rfl, by decide, by kernel_rfl, rfl, fun _ _ h => h⟩) rfl cxT15 rfl (fun aa ww hw hf hd => ⟨_, (two_args (knows_in 27 138 (by decide) (by kernel_rfl) rfl rfl) (knows_in 28 139 (by decide) (by kernel_rfl) rfl rfl)) aa ww hw hf hd, hrs ww (HB11.trans (Below.mono (show Below W9.heap.size W9 ww from hw) HB11.size))⟩)),
                     (step_ex _ rfl (.inr ⟨23, true, 134, rfl, by decide, by kernel_rfl, rfl, fun _ _ h => h⟩) rfl (fun a ww hw hf hd => by
                   have h137 : a.eval (.tmp 137) = Value.int .i64 r := ((knows_in 26 137 (by decide) (by kernel_rfl) rfl rfl) : Knows _ _ _ _ _ _ 30 _ _) a ww hw hf hd
                   have h140 : a.eval (.tmp 140) = Value.int .i64 r := ((knows_in 29 140 (by decide) (by kernel_rfl) rfl rfl) : Knows _ _ _ _ _ _ 30 _ _) a ww hw hf hd
                   revert h137 h140
                   generalize a.eval = ev
                   intro h137 h140
                   unfold execOp
                   simp only [h137, h140]
                   go_simp)),
                     (step_ex _ rfl (.inr ⟨20, false, 131, rfl, by decide, by kernel_rfl, rfl, fun _ _ h => h⟩) rfl (fun a ww hw hf hd => by
                   have h134 : a.eval (.tmp 134) = Value.bool true := ((knows_in 23 134 (by decide) (by kernel_rfl) rfl rfl) : Knows _ _ _ _ _ _ 31 _ _) a ww hw hf hd
                   have h141 : a.eval (.tmp 141) = Value.bool false := ((knows_in 30 141 (by decide) (by kernel_rfl) rfl rfl) : Knows _ _ _ _ _ _ 31 _ _) a ww hw hf hd
                   have hc := ec a
                   revert hc h134 h141
                   generalize a.eval = ev
                   intro hc h134 h141
                   unfold execOp
                   simp only [hc, h134, h141]
                   go_simp)), trivial⟩ ?_
                  intro val W12 hw hS _ _
                  have e111 : val 111 = Value.bool true := hS 0 111 (by decide) rfl
                  have e112 : val 112 = Value.bool false := hS 1 112 (by decide) rfl
                  have e113 : val 113 = Value.bool false := hS 2 113 (by decide) rfl
                  have e114 : val 114 = Value.agg (tc t).toArray := hS 3 114 (by decide) rfl
                  have e115 : val 115 = Value.agg (tc t).toArray := hS 4 115 (by decide) rfl
                  have e116 : val 116 = Value.bool false := hS 5 116 (by decide) rfl
                  have e117 : val 117 = Value.bool false := hS 6 117 (by decide) rfl
                  have e118 : val 118 = Value.bool false := hS 7 118 (by decide) rfl
                  have e119 : val 119 = Value.bool false := hS 8 119 (by decide) rfl
                  have e120 : val 120 = Value.pointer (some ⟨wr.heap.size, 0, none⟩) := hS 9 120 (by decide) rfl
                  have e121 : val 121 = Value.int .i64 t.1 := hS 10 121 (by decide) rfl
                  have e122 : val 122 = Value.bool false := hS 11 122 (by decide) rfl
                  have e123 : val 123 = Value.bool false := hS 12 123 (by decide) rfl
                  have e124 : val 124 = Value.bool false := hS 13 124 (by decide) rfl
                  have e125 : val 125 = Value.bool false := hS 14 125 (by decide) rfl
                  have e126 : val 126 = Value.slice none 0 0 := hS 15 126 (by decide) rfl
                  have e127 : val 127 = Value.slice none 0 0 := hS 16 127 (by decide) rfl
                  have e128 : val 128 = Value.bool true := hS 17 128 (by decide) rfl
                  have e129 : val 129 = Value.bool false := hS 18 129 (by decide) rfl
                  have e130 : val 130 = Value.bool false := hS 19 130 (by decide) rfl
                  have e131 : val 131 = Value.bool false := hS 20 131 (by decide) rfl
                  have e132 : val 132 = Value.int .i64 k2 := hS 21 132 (by decide) rfl
                  have e133 : val 133 = Value.bool true := hS 22 133 (by decide) rfl
                  have e134 : val 134 = Value.bool true := hS 23 134 (by decide) rfl
                  have e135 : val 135 = Value.pointer (some ⟨p, 0, none⟩) := hS 24 135 (by decide) rfl
                  have e136 : val 136 = Value.int .i64 k2 := hS 25 136 (by decide) rfl
                  have e137 : val 137 = Value.int .i64 r := hS 26 137 (by decide) rfl
                  have e138 : val 138 = Value.pointer (some ⟨q, 0, none⟩) := hS 27 138 (by decide) rfl
                  have e139 : val 139 = Value.int .i64 k2 := hS 28 139 (by decide) rfl
                  have e140 : val 140 = Value.int .i64 r := hS 29 140 (by decide) rfl
                  have e141 : val 141 = Value.bool false := hS 30 141 (by decide) rfl
                  have e142 : val 142 = Value.bool false := hS 31 142 (by decide) rfl
                  simp only [putVals, List.foldl_cons, List.foldl_nil, List.drop_succ_cons, List.drop_zero, Act.put, List.setIfInBounds_toArray, List.set_cons_succ, List.set_cons_zero, e111, e112, e113, e114, e115, e116, e117, e118, e119, e120, e121, e122, e123, e124, e125, e126, e127, e128, e129, e130, e131, e132, e133, e134, e135, e136, e137, e138, e139, e140, e141, e142]
                  clear e111 e112 e113 e114 e115 e116 e117 e118 e119 e120 e121 e122 e123 e124 e125 e126 e127 e128 e129 e130 e131 e132 e133 e134 e135 e136 e137 e138 e139 e140 e141 e142 hS
                  go_wp2
                  go_roundw
                  case rel => exact ⟨k2 + 1, hk1, by go_num, hcl.trans (Below.mono (HB11.trans (Below.mono (show Below W9.heap.size W9 W12 from hw) HB11.size)) hcl.size)⟩
                  case measure => simp [intOf]; omega
                · skip
                  refine region_spec2 32 171 (fun _ => false) [Is (Value.bool true), Is (Value.bool false), Is (Value.bool false), Is (Value.agg (tc t).toArray), Is (Value.agg (tc t).toArray), Is (Value.bool false), Is (Value.bool false), Is (Value.bool false), Is (Value.bool false), Is (Value.pointer (some ⟨wr.heap.size, 0, none⟩)), Is (Value.int .i64 t.1), Is (Value.bool false), Is (Value.bool false), Is (Value.bool false), Is (Value.bool false), Is (Value.slice none 0 0), Is (Value.slice none 0 0), Is (Value.bool true), Is (Value.bool false), Is (Value.bool false), Is (Value.bool false), Is (Value.int .i64 k2), Is (Value.bool false), Is (Value.bool false), Is (undef), Is (undef), Is (undef), Is (undef), Is (undef), Is (undef), Is (undef), Is (Value.bool false)] [111, 112, 113, 114, 115, 116, 117, 118, 119, 120, 121, 122, 123, 124, 125, 126, 127, 128, 129, 130, 131, 132, 133, 134, 135, 136, 137, 138, 139, 140, 141, 142] (by kernel_rfl) (by kernel_rfl) (by kernel_rfl) (Nat.le_of_eq rfl) (grows_cons (Is.grows _) (grows_cons (Is.grows _) (grows_cons (Is.grows _) (grows_cons (Is.grows _) (grows_cons (Is.grows _) (grows_cons (Is.grows _) (grows_cons (Is.grows _) (grows_cons (Is.grows _) (grows_cons (Is.grows _) (grows_cons (Is.grows _) (grows_cons (Is.grows _) (grows_cons (Is.grows _) (grows_cons (Is.grows _) (grows_cons (Is.grows _) (grows_cons (Is.grows _) (grows_cons (Is.grows _) (grows_cons (Is.grows _) (grows_cons (Is.grows _) (grows_cons (Is.grows _) (grows_cons (Is.grows _) (grows_cons (Is.grows _) (grows_cons (Is.grows _) (grows_cons (Is.grows _) (grows_cons (Is.grows _) (grows_cons (Is.grows _) (grows_cons (Is.grows _) (grows_cons (Is.grows _) (grows_cons (Is.grows _) (grows_cons (Is.grows _) (grows_cons (Is.grows _) (grows_cons (Is.grows _) (grows_cons (Is.grows _) grows_nil))))))))))))))))))))))))))))))))
                    ⟨(step_ex _ rfl (.inl rfl) rfl (fun a ww hw hf hd => by
                   have h13 : a.eval (.tmp 13) = Value.bool true := ((knows_out 13 (by kernel_rfl) rfl) : Knows _ _ _ _ _ _ 0 _ _) a ww hw hf hd
                   revert h13
                   generalize a.eval = ev
                   intro h13
                   unfold execOp
                   simp only [h13]
                   go_simp)),
                     (step_ex _ rfl (.inl rfl) rfl (fun a ww hw hf hd => by
                   have h111 : a.eval (.tmp 111) = Value.bool true := ((knows_in 0 111 (by decide) (by kernel_rfl) rfl rfl) : Knows _ _ _ _ _ _ 1 _ _) a ww hw hf hd
                   revert h111
                   generalize a.eval = ev
                   intro h111
                   unfold execOp
                   simp only [h111]
                   go_simp)),
                     (step_ex _ rfl (.inl rfl) rfl (fun a ww hw hf hd => by
                   have h112 : a.eval (.tmp 112) = Value.bool false := ((knows_in 1 112 (by decide) (by kernel_rfl) rfl rfl) : Knows _ _ _ _ _ _ 2 _ _) a ww hw hf hd
                   revert h112
                   generalize a.eval = ev
                   intro h112
                   unfold execOp
                   simp only [h112]
                   go_simp)),
                     (step_ldV rfl (.inr ⟨2, false, 113, rfl, by decide, by kernel_rfl, rfl, fun _ _ h => h⟩) (fun _ hw => (hB9Y.next hw).rw.range) rfl Try.underlying33 rfl (szV infT (tc_len _)) rfl (knows_out 12 (by kernel_rfl) rfl)),
                     (step_ldV rfl (.inr ⟨2, false, 113, rfl, by decide, by kernel_rfl, rfl, fun _ _ h => h⟩) (fun _ hw => (hB7Y.next hw).rw.range) rfl Try.underlying33 rfl (szV infT (tc_len _)) rfl (knows_out 11 (by kernel_rfl) rfl)),
                     (step_ex (Value.bool false) rfl (.inr ⟨2, false, 113, rfl, by decide, by kernel_rfl, rfl, fun _ _ h => h⟩) rfl (fun a ww hw hf hd => exec_neT rfl (((knows_in 3 114 (by decide) (by kernel_rfl) rfl rfl) : Knows _ _ _ _ _ _ 5 _ (Value.agg (tc t).toArray)) a ww hw hf hd) (((knows_in 4 115 (by decide) (by kernel_rfl) rfl rfl) : Knows _ _ _ _ _ _ 5 _ (Value.agg (tc t).toArray)) a ww hw hf hd) hT hT hTT ww)),
                     (step_ex _ rfl (.inl rfl) rfl (fun a ww hw hf hd => by
                   have h113 : a.eval (.tmp 113) = Value.bool false := ((knows_in 2 113 (by decide) (by kernel_rfl) rfl rfl) : Knows _ _ _ _ _ _ 6 _ _) a ww hw hf hd
                   have h116 : a.eval (.tmp 116) = Value.bool false := ((knows_in 5 116 (by decide) (by kernel_rfl) rfl rfl) : Knows _ _ _ _ _ _ 6 _ _) a ww hw hf hd
                   have hc := ec a
                   revert hc h113 h116
                   generalize a.eval = ev
                   intro hc h113 h116
                   unfold execOp
                   simp only [hc, h113, h116]
                   go_simp)),
                     (step_ex _ rfl (.inl rfl) rfl (fun a ww hw hf hd => by
                   have h117 : a.eval (.tmp 117) = Value.bool false := ((knows_in 6 117 (by decide) (by kernel_rfl) rfl rfl) : Knows _ _ _ _ _ _ 7 _ _) a ww hw hf hd
                   revert h117
                   generalize a.eval = ev
                   intro h117
                   unfold execOp
                   simp only [h117]
                   go_simp)),
                     (step_ex _ rfl (.inr ⟨7, false, 118, rfl, by decide, by kernel_rfl, rfl, fun _ _ h => h⟩) rfl (fun a ww hw hf hd => by
                   have h15 : a.eval (.tmp 15) = Value.bool false := ((knows_out 15 (by kernel_rfl) rfl) : Knows _ _ _ _ _ _ 8 _ _) a ww hw hf hd
                   revert h15
                   generalize a.eval = ev
                   intro h15
                   unfold execOp
                   simp only [h15]
                   go_simp)),
                     (step_ex _ rfl (.inr ⟨7, false, 118, rfl, by decide, by kernel_rfl, rfl, fun _ _ h => h⟩) rfl (fun a ww hw hf hd => by
                   have h11 : a.eval (.tmp 11) = Value.pointer (some ⟨wr.heap.size, 0, none⟩) := ((knows_out 11 (by kernel_rfl) rfl) : Knows _ _ _ _ _ _ 9 _ _) a ww hw hf hd
                   revert h11
                   generalize a.eval = ev
                   intro h11
                   unfold execOp
                   simp only [h11]
                   go_simp)),
                     (step_ex _ rfl (.inr ⟨7, false, 118, rfl, by decide, by kernel_rfl, rfl, fun _ _ h => h⟩) rfl (fun a ww hw hf hd => by
                   have h120 : a.eval (.tmp 120) = Value.pointer (some ⟨wr.heap.size, 0, none⟩) := ((knows_in 9 120 (by decide) (by kernel_rfl) rfl rfl) : Knows _ _ _ _ _ _ 10 _ _) a ww hw hf hd
                   have f0 : ww.cell? ⟨wr.heap.size, 0, none⟩ = some (Value.int .i64 t.1) := cellB y0Y hw
                   revert h120
                   generalize a.eval = ev
                   intro h120
                   unfold execOp
                   simp only [h120]
                   go_simp)),
                     (step_ex _ rfl (.inr ⟨7, false, 118, rfl, by decide, by kernel_rfl, rfl, fun _ _ h => h⟩) rfl (fun a ww hw hf hd => by
                   have h121 : a.eval (.tmp 121) = Value.int .i64 t.1 := ((knows_in 10 121 (by decide) (by kernel_rfl) rfl rfl) : Knows _ _ _ _ _ _ 11 _ _) a ww hw hf hd
                   have f0 := ne_of_beq_false e9
                   have hc := ec a
                   revert hc h121
                   generalize a.eval = ev
                   intro hc h121
                   unfold execOp
                   simp only [hc, h121]
                   go_simp)),
                     (step_ex _ rfl (.inr ⟨7, false, 118, rfl, by decide, by kernel_rfl, rfl, fun _ _ h => h⟩) rfl (fun a ww hw hf hd => by
                   have h119 : a.eval (.tmp 119) = Value.bool false := ((knows_in 8 119 (by decide) (by kernel_rfl) rfl rfl) : Knows _ _ _ _ _ _ 12 _ _) a ww hw hf hd
                   have h122 : a.eval (.tmp 122) = Value.bool false := ((knows_in 11 122 (by decide) (by kernel_rfl) rfl rfl) : Knows _ _ _ _ _ _ 12 _ _) a ww hw hf hd
                   revert h119 h122
                   generalize a.eval = ev
                   intro h119 h122
                   unfold execOp
                   simp only [h119, h122]
                   go_simp)),
                     (step_ex _ rfl (.inl rfl) rfl (fun a ww hw hf hd => by
                   have h118 : a.eval (.tmp 118) = Value.bool false := ((knows_in 7 118 (by decide) (by kernel_rfl) rfl rfl) : Knows _ _ _ _ _ _ 13 _ _) a ww hw hf hd
                   have h123 : a.eval (.tmp 123) = Value.bool false := ((knows_in 12 123 (by decide) (by kernel_rfl) rfl rfl) : Knows _ _ _ _ _ _ 13 _ _) a ww hw hf hd
                   have hc := ec a
                   revert hc h118 h123
                   generalize a.eval = ev
                   intro hc h118 h123
                   unfold execOp
                   simp only [hc, h118, h123]
                   go_simp)),
                     (step_ex _ rfl (.inl rfl) rfl (fun a ww hw hf hd => by
                   have h124 : a.eval (.tmp 124) = Value.bool false := ((knows_in 13 124 (by decide) (by kernel_rfl) rfl rfl) : Knows _ _ _ _ _ _ 14 _ _) a ww hw hf hd
                   revert h124
                   generalize a.eval = ev
                   intro h124
                   unfold execOp
                   simp only [h124]
                   go_simp)),
                     (step_ex _ rfl (.inr ⟨14, false, 125, rfl, by decide, by kernel_rfl, rfl, fun _ _ h => h⟩) rfl (fun a ww hw hf hd => by
                   have h14 : a.eval (.tmp 14) = Value.slice none 0 0 := ((knows_out 14 (by kernel_rfl) rfl) : Knows _ _ _ _ _ _ 15 _ _) a ww hw hf hd
                   revert h14
                   generalize a.eval = ev
                   intro h14
                   unfold execOp
                   simp only [h14]
                   go_simp)),
                     (step_ex _ rfl (.inr ⟨14, false, 125, rfl, by decide, by kernel_rfl, rfl, fun _ _ h => h⟩) rfl (fun a ww hw hf hd => by
                   have h16 : a.eval (.tmp 16) = Value.slice none 0 0 := ((knows_out 16 (by kernel_rfl) rfl) : Knows _ _ _ _ _ _ 16 _ _) a ww hw hf hd
                   revert h16
                   generalize a.eval = ev
                   intro h16
                   unfold execOp
                   simp only [h16]
                   go_simp)),
                     (step_cw rfl (.inr ⟨14, false, 125, rfl, by decide, by kernel_rfl, rfl, fun _ _ h => h⟩) rfl cxT13 rfl (fun aa ww hw hf hd => ⟨_, (two_args (knows_in 15 126 (by decide) (by kernel_rfl) rfl rfl) (knows_in 16 127 (by decide) (by kernel_rfl) rfl rfl)) aa ww hw hf hd, rsame_any none none 0 0 0 0 [] [] true ww (Nat.zero_le _) rfl rfl (decide_eq_true rfl) Nums.nil Nums.nil⟩)),
                     (step_ex _ rfl (.inr ⟨14, false, 125, rfl, by decide, by kernel_rfl, rfl, fun _ _ h => h⟩) rfl (fun a ww hw hf hd => by
                   have h128 : a.eval (.tmp 128) = Value.bool true := ((knows_in 17 128 (by decide) (by kernel_rfl) rfl rfl) : Knows _ _ _ _ _ _ 18 _ _) a ww hw hf hd
                   revert h128
                   generalize a.eval = ev
                   intro h128
                   unfold execOp
                   simp only [h128]
                   go_simp)),
                     (step_ex _ rfl (.inl rfl) rfl (fun a ww hw hf hd => by
                   have h125 : a.eval (.tmp 125) = Value.bool false := ((knows_in 14 125 (by decide) (by kernel_rfl) rfl rfl) : Knows _ _ _ _ _ _ 19 _ _) a ww hw hf hd
                   have h129 : a.eval (.tmp 129) = Value.bool false := ((knows_in 18 129 (by decide) (by kernel_rfl) rfl rfl) : Knows _ _ _ _ _ _ 19 _ _) a ww hw hf hd
                   have hc := ec a
                   revert hc h125 h129
                   generalize a.eval = ev
                   intro hc h125 h129
                   unfold execOp
                   simp only [hc, h125, h129]
                   go_simp)),
                     (step_ex _ rfl (.inl rfl) rfl (fun a ww hw hf hd => by
                   have h130 : a.eval (.tmp 130) = Value.bool false := ((knows_in 19 130 (by decide) (by kernel_rfl) rfl rfl) : Knows _ _ _ _ _ _ 20 _ _) a ww hw hf hd
                   revert h130
                   generalize a.eval = ev
                   intro h130
                   unfold execOp
                   simp only [h130]
                   go_simp)),
                     (step_ex _ rfl (.inr ⟨20, false, 131, rfl, by decide, by kernel_rfl, rfl, fun _ _ h => h⟩) rfl (fun a ww hw hf hd => by
                   have h10 : a.eval (.tmp 10) = Value.int .i64 k2 := ((knows_out 10 (by kernel_rfl) rfl) : Knows _ _ _ _ _ _ 21 _ _) a ww hw hf hd
                   revert h10
                   generalize a.eval = ev
                   intro h10
                   unfold execOp
                   simp only [h10]
                   go_simp)),
                     (step_ex _ rfl (.inr ⟨20, false, 131, rfl, by decide, by kernel_rfl, rfl, fun _ _ h => h⟩) rfl (fun a ww hw hf hd => by
                   have h132 : a.eval (.tmp 132) = Value.int .i64 k2 := ((knows_in 21 132 (by decide) (by kernel_rfl) rfl rfl) : Knows _ _ _ _ _ _ 22 _ _) a ww hw hf hd
                   have f0 := h12
                   have hc := ec a
                   revert hc h132
                   generalize a.eval = ev
                   intro hc h132
                   unfold execOp
                   simp only [hc, h132]
                   go_simp)),
                     (step_ex _ rfl (.inr ⟨20, false, 131, rfl, by decide, by kernel_rfl, rfl, fun _ _ h => h⟩) rfl (fun a ww hw hf hd => by
                   have h133 : a.eval (.tmp 133) = Value.bool false := ((knows_in 22 133 (by decide) (by kernel_rfl) rfl rfl) : Knows _ _ _ _ _ _ 23 _ _) a ww hw hf hd
                   revert h133
                   generalize a.eval = ev
                   intro h133
                   unfold execOp
                   simp only [h133]
                   go_simp)),
                     (step_off rfl ⟨23, true, 134, rfl, by decide, by kernel_rfl, rfl, fun _ _ h => .inl h⟩ (fun _ => rfl)),
                     (step_off rfl ⟨23, true, 134, rfl, by decide, by kernel_rfl, rfl, fun _ _ h => .inl h⟩ (fun _ => rfl)),
                     (step_off rfl ⟨23, true, 134, rfl, by decide, by kernel_rfl, rfl, fun _ _ h => .inl h⟩ (fun _ => rfl)),
                     (step_off rfl ⟨23, true, 134, rfl, by decide, by kernel_rfl, rfl, fun _ _ h => .inl h⟩ (fun _ => rfl)),
                     (step_off rfl ⟨23, true, 134, rfl, by decide, by kernel_rfl, rfl, fun _ _ h => .inl h⟩ (fun _ => rfl)),
                     (step_off rfl ⟨23, true, 134, rfl, by decide, by kernel_rfl, rfl, fun _ _ h => .inl h⟩ (fun _ => rfl)),
                     (step_off rfl ⟨23, true, 134, rfl, by decide, by kernel_rfl, rfl, fun _ _ h => .inl h⟩ (fun _ => rfl)),
                     (step_ex _ rfl (.inr ⟨20, false, 131, rfl, by decide, by kernel_rfl, rfl, fun _ _ h => h⟩) rfl (fun a ww hw hf hd => by
                   have h134 : a.eval (.tmp 134) = Value.bool false := ((knows_in 23 134 (by decide) (by kernel_rfl) rfl rfl) : Knows _ _ _ _ _ _ 31 _ _) a ww hw hf hd
                   have hc := ec a
                   revert hc h134
                   generalize a.eval = ev
                   intro hc h134
                   unfold execOp
                   simp only [hc, h134]
                   go_simp)), trivial⟩ ?_
                  intro val W12 hw hS _ _
                  have e111 : val 111 = Value.bool true := hS 0 111 (by decide) rfl
                  have e112 : val 112 = Value.bool false := hS 1 112 (by decide) rfl
                  have e113 : val 113 = Value.bool false := hS 2 113 (by decide) rfl
                  have e114 : val 114 = Value.agg (tc t).toArray := hS 3 114 (by decide) rfl
                  have e115 : val 115 = Value.agg (tc t).toArray := hS 4 115 (by decide) rfl
                  have e116 : val 116 = Value.bool false := hS 5 116 (by decide) rfl
                  have e117 : val 117 = Value.bool false := hS 6 117 (by decide) rfl
                  have e118 : val 118 = Value.bool false := hS 7 118 (by decide) rfl
                  have e119 : val 119 = Value.bool false := hS 8 119 (by decide) rfl
                  have e120 : val 120 = Value.pointer (some ⟨wr.heap.size, 0, none⟩) := hS 9 120 (by decide) rfl
                  have e121 : val 121 = Value.int .i64 t.1 := hS 10 121 (by decide) rfl
                  have e122 : val 122 = Value.bool false := hS 11 122 (by decide) rfl
                  have e123 : val 123 = Value.bool false := hS 12 123 (by decide) rfl
                  have e124 : val 124 = Value.bool false := hS 13 124 (by decide) rfl
                  have e125 : val 125 = Value.bool false := hS 14 125 (by decide) rfl
                  have e126 : val 126 = Value.slice none 0 0 := hS 15 126 (by decide) rfl
                  have e127 : val 127 = Value.slice none 0 0 := hS 16 127 (by decide) rfl
                  have e128 : val 128 = Value.bool true := hS 17 128 (by decide) rfl
                  have e129 : val 129 = Value.bool false := hS 18 129 (by decide) rfl
                  have e130 : val 130 = Value.bool false := hS 19 130 (by decide) rfl
                  have e131 : val 131 = Value.bool false := hS 20 131 (by decide) rfl
                  have e132 : val 132 = Value.int .i64 k2 := hS 21 132 (by decide) rfl
                  have e133 : val 133 = Value.bool false := hS 22 133 (by decide) rfl
                  have e134 : val 134 = Value.bool false := hS 23 134 (by decide) rfl
                  have e135 : val 135 = undef := hS 24 135 (by decide) rfl
                  have e136 : val 136 = undef := hS 25 136 (by decide) rfl
                  have e137 : val 137 = undef := hS 26 137 (by decide) rfl
                  have e138 : val 138 = undef := hS 27 138 (by decide) rfl
                  have e139 : val 139 = undef := hS 28 139 (by decide) rfl
                  have e140 : val 140 = undef := hS 29 140 (by decide) rfl
                  have e141 : val 141 = undef := hS 30 141 (by decide) rfl
                  have e142 : val 142 = Value.bool false := hS 31 142 (by decide) rfl
                  simp only [putVals, List.foldl_cons, List.foldl_nil, List.drop_succ_cons, List.drop_zero, Act.put, List.setIfInBounds_toArray, List.set_cons_succ, List.set_cons_zero, e111, e112, e113, e114, e115, e116, e117, e118, e119, e120, e121, e122, e123, e124, e125, e126, e127, e128, e129, e130, e131, e132, e133, e134, e135, e136, e137, e138, e139, e140, e141, e142]
                  clear e111 e112 e113 e114 e115 e116 e117 e118 e119 e120 e121 e122 e123 e124 e125 e126 e127 e128 e129 e130 e131 e132 e133 e134 e135 e136 e137 e138 e139 e140 e141 e142 hS
                  go_wp2
                  go_roundw
                  case rel => exact ⟨k2 + 1, hk1, by go_num, hcl.trans (Below.mono (HB11.trans (Below.mono (show Below W9.heap.size W9 W12 from hw) HB11.size)) hcl.size)⟩
                  case measure => simp [intOf]; omega
            · have hge : ¬ (k2 : Int) < L.length := by omega
              have hn1 : ¬ (0 ≤ (L.length : Int) ∧ (L.length : Int) < L.length) := by omega
              have e : k2 = L.length := by omega
              subst e
              obtain ⟨Fx, hCS⟩ := hBr.code
              have b2r := hB2.next hcl
              have b7r := hB7.next hcl
              have b7c := b7r.cell (i := 0) rfl
              have hKr : wr.heap[D]? = some (.deferred (some [])) := (hcl.block D (Array.getElem?_eq_some_iff.1 hK).1).trans hK
              have hbr : Below w.heap.size w wr := hbW.trans (Below.mono hcl hbW.size)
              have hlt7 : w.heap.size < t7 := hBl
              have hgn : Calls Try.prog 11 #[.pointer (some ⟨p, 0, none⟩), .int .i64 (L.length : Nat)] wr fun e w' => e = .returned (.tuple #[.agg #[.int .i64 0, .int .i64 0, .int .i64 0], .bool false]) ∧ Below wr.heap.size wr w' := get_no _ p L X (L.length : Nat) _ hCS hn1
              clear hk2 hlt
              go_upto_region 31 with (go_at_call 11; refine hgn.mono ?_; rintro e w8 ⟨rfl, hb8⟩)
              obtain ⟨W9, hW9⟩ : ∃ W, w8.alloc (.cells #[.int .i64 0, .int .i64 0, .int .i64 0] 33) = W := ⟨_, rfl⟩
              have hb9 : Below w8.heap.size w8 W9 := by rw [← hW9]; exact below_new w8 _
              rw [hW9]
              clear hW9
              have hb89 : Below wr.heap.size wr W9 := hb8.trans (Below.mono hb9 hb8.size)
              have b2s := b2r.next hb89
              have b7s := cellB b7c hb89
              have b4s := cellB b4r hb89
              have r0s := cellB r0r hb89
              have hKs : W9.heap[D]? = some (.deferred (some [])) := (hb89.block D (Array.getElem?_eq_some_iff.1 hKr).1).trans hKr
              have hCS9 := hCS.next hb89
              have hbs : Below w.heap.size w W9 := hbr.trans (Below.mono hb89 hbr.size)
              have hDW : D ≠ w.heap.size := fun e => by
                rw [e, show W9.heap[w.heap.size]? = _ from b2s] at hKs; cases hKs
              clear hb8 hb9 hb89 b2r b7r b7c b4r r0r hKr hCS hbr hcl
              refine region_spec2 16 171 (fun _ => false) [Is (Value.bool false), Is (Value.bool true), Is (Value.bool true), Is (Value.int .i64 (L.length : Nat)), Is (Value.pointer (some ⟨q, 0, none⟩)), Is (Value.pointer (some ⟨q, 0, none⟩)), Is (Value.pointer (some ⟨q, 0, none⟩)), Is (Value.slice AL L.length cL), Is (Value.int .i64 (L.length : Nat)), Is (Value.bool true), Is (Value.bool true), Is (Value.bool true), Is (Value.pointer (some ⟨p, 0, none⟩)), Is (Value.int .i64 0), Is (Value.bool true), Is (Value.bool true)] [155, 156, 157, 158, 159, 160, 161, 162, 163, 164, 165, 166, 167, 168, 169, 170] (by kernel_rfl) (by kernel_rfl) (by kernel_rfl) (Nat.le_of_eq rfl) (grows_cons (Is.grows _) (grows_cons (Is.grows _) (grows_cons (Is.grows _) (grows_cons (Is.grows _) (grows_cons (Is.grows _) (grows_cons (Is.grows _) (grows_cons (Is.grows _) (grows_cons (Is.grows _) (grows_cons (Is.grows _) (grows_cons (Is.grows _) (grows_cons (Is.grows _) (grows_cons (Is.grows _) (grows_cons (Is.grows _) (grows_cons (Is.grows _) (grows_cons (Is.grows _) (grows_cons (Is.grows _) grows_nil))))))))))))))))
                ⟨(step_ex _ rfl (.inl rfl) rfl (fun a ww hw hf hd => by
               have h18 : a.eval (.tmp 18) = Value.bool false := ((knows_out 18 (by kernel_rfl) rfl) : Knows _ _ _ _ _ _ 0 _ _) a ww hw hf hd
               revert h18
               generalize a.eval = ev
               intro h18
               unfold execOp
               simp only [h18]
               go_simp)),
                 (step_ex _ rfl (.inl rfl) rfl (fun a ww hw hf hd => by
               have h155 : a.eval (.tmp 155) = Value.bool false := ((knows_in 0 155 (by decide) (by kernel_rfl) rfl rfl) : Knows _ _ _ _ _ _ 1 _ _) a ww hw hf hd
               revert h155
               generalize a.eval = ev
               intro h155
               unfold execOp
               simp only [h155]
               go_simp)),
                 (step_ex _ rfl (.inl rfl) rfl (fun a ww hw hf hd => by
               have h156 : a.eval (.tmp 156) = Value.bool true := ((knows_in 1 156 (by decide) (by kernel_rfl) rfl rfl) : Knows _ _ _ _ _ _ 2 _ _) a ww hw hf hd
               revert h156
               generalize a.eval = ev
               intro h156
               unfold execOp
               simp only [h156]
               go_simp)),
                 (step_ex _ rfl (.inr ⟨2, true, 157, rfl, by decide, by kernel_rfl, rfl, fun _ _ h => h⟩) rfl (fun a ww hw hf hd => by
               have h7 : a.eval (.tmp 7) = Value.pointer (some ⟨t7, 0, none⟩) := ((knows_out 7 (by kernel_rfl) rfl) : Knows _ _ _ _ _ _ 3 _ _) a ww hw hf hd
               have f0 : ww.cell? ⟨t7, 0, none⟩ = some (Value.int .i64 (L.length : Nat)) := cellB b7s hw
               revert h7
               generalize a.eval = ev
               intro h7
               unfold execOp
               simp only [h7]
               go_simp)),
                 (step_ex _ rfl (.inr ⟨2, true, 157, rfl, by decide, by kernel_rfl, rfl, fun _ _ h => h⟩) rfl (fun a ww hw hf hd => by
               have h4 : a.eval (.tmp 4) = Value.pointer (some ⟨(q + 1), 0, none⟩) := ((knows_out 4 (by kernel_rfl) rfl) : Knows _ _ _ _ _ _ 4 _ _) a ww hw hf hd
               have f0 : ww.cell? ⟨(q + 1), 0, none⟩ = some (Value.pointer (some ⟨q, 0, none⟩)) := cellB b4s hw
               revert h4
               generalize a.eval = ev
               intro h4
               unfold execOp
               simp only [h4]
               go_simp)),
                 (step_ex _ rfl (.inr ⟨2, true, 157, rfl, by decide, by kernel_rfl, rfl, fun _ _ h => h⟩) rfl (fun a ww hw hf hd => by
               have h159 : a.eval (.tmp 159) = Value.pointer (some ⟨q, 0, none⟩) := ((knows_in 4 159 (by decide) (by kernel_rfl) rfl rfl) : Knows _ _ _ _ _ _ 5 _ _) a ww hw hf hd
               revert h159
               generalize a.eval = ev
               intro h159
               unfold execOp
               simp only [h159]
               go_simp)),
                 (step_ex _ rfl (.inr ⟨2, true, 157, rfl, by decide, by kernel_rfl, rfl, fun _ _ h => h⟩) rfl (fun a ww hw hf hd => by
               have h160 : a.eval (.tmp 160) = Value.pointer (some ⟨q, 0, none⟩) := ((knows_in 5 160 (by decide) (by kernel_rfl) rfl rfl) : Knows _ _ _ _ _ _ 6 _ _) a ww hw hf hd
               revert h160
               generalize a.eval = ev
               intro h160
               unfold execOp
               simp only [h160]
               go_simp)),
                 (step_ex _ rfl (.inr ⟨2, true, 157, rfl, by decide, by kernel_rfl, rfl, fun _ _ h => h⟩) rfl (fun a ww hw hf hd => by
               have h161 : a.eval (.tmp 161) = Value.pointer (some ⟨q, 0, none⟩) := ((knows_in 6 161 (by decide) (by kernel_rfl) rfl rfl) : Knows _ _ _ _ _ _ 7 _ _) a ww hw hf hd
               have f0 : ww.cell? ⟨q, 0, none⟩ = some (Value.slice AL L.length cL) := cellB r0s hw
               revert h161
               generalize a.eval = ev
               intro h161
               unfold execOp
               simp only [h161]
               go_simp)),
                 (step_ex _ rfl (.inr ⟨2, true, 157, rfl, by decide, by kernel_rfl, rfl, fun _ _ h => h⟩) rfl (fun a ww hw hf hd => by
               have h162 : a.eval (.tmp 162) = Value.slice AL L.length cL := ((knows_in 7 162 (by decide) (by kernel_rfl) rfl rfl) : Knows _ _ _ _ _ _ 8 _ _) a ww hw hf hd
               revert h162
               generalize a.eval = ev
               intro h162
               unfold execOp
               simp only [h162]
               go_simp)),
                 (step_ex _ rfl (.inr ⟨2, true, 157, rfl, by decide, by kernel_rfl, rfl, fun _ _ h => h⟩) rfl (fun a ww hw hf hd => by
               have h158 : a.eval (.tmp 158) = Value.int .i64 (L.length : Nat) := ((knows_in 3 158 (by decide) (by kernel_rfl) rfl rfl) : Knows _ _ _ _ _ _ 9 _ _) a ww hw hf hd
               have h163 : a.eval (.tmp 163) = Value.int .i64 (L.length : Nat) := ((knows_in 8 163 (by decide) (by kernel_rfl) rfl rfl) : Knows _ _ _ _ _ _ 9 _ _) a ww hw hf hd
               revert h158 h163
               generalize a.eval = ev
               intro h158 h163
               unfold execOp
               simp only [h158, h163]
               go_simp)),
                 (step_ex _ rfl (.inl rfl) rfl (fun a ww hw hf hd => by
               have h157 : a.eval (.tmp 157) = Value.bool true := ((knows_in 2 157 (by decide) (by kernel_rfl) rfl rfl) : Knows _ _ _ _ _ _ 10 _ _) a ww hw hf hd
               have h164 : a.eval (.tmp 164) = Value.bool true := ((knows_in 9 164 (by decide) (by kernel_rfl) rfl rfl) : Knows _ _ _ _ _ _ 10 _ _) a ww hw hf hd
               have hc := ec a
               revert hc h157 h164
               generalize a.eval = ev
               intro hc h157 h164
               unfold execOp
               simp only [hc, h157, h164]
               go_simp)),
                 (step_ex _ rfl (.inl rfl) rfl (fun a ww hw hf hd => by
               have h165 : a.eval (.tmp 165) = Value.bool true := ((knows_in 10 165 (by decide) (by kernel_rfl) rfl rfl) : Knows _ _ _ _ _ _ 11 _ _) a ww hw hf hd
               revert h165
               generalize a.eval = ev
               intro h165
               unfold execOp
               simp only [h165]
               go_simp)),
                 (step_ex _ rfl (.inr ⟨11, true, 166, rfl, by decide, by kernel_rfl, rfl, fun _ _ h => h⟩) rfl (fun a ww hw hf hd => by
               have h3 : a.eval (.tmp 3) = Value.pointer (some ⟨p, 0, none⟩) := ((knows_out 3 (by kernel_rfl) rfl) : Knows _ _ _ _ _ _ 12 _ _) a ww hw hf hd
               revert h3
               generalize a.eval = ev
               intro h3
               unfold execOp
               simp only [h3]
               go_simp)),
                 (step_cw rfl (.inr ⟨11, true, 166, rfl, by decide, by kernel_rfl, rfl, fun _ _ h => h⟩) rfl cxT14 rfl (fun aa ww hw hf hd => ⟨_, (two_args (knows_in 12 167 (by decide) (by kernel_rfl) rfl rfl) (knows_const (Value.int .i64 (-1)))) aa ww hw hf hd, calls_q (sizeN_no _ p L X (-1) ww (hCS9.next hw) (by omega))⟩)),
                 (step_ex _ rfl (.inr ⟨11, true, 166, rfl, by decide, by kernel_rfl, rfl, fun _ _ h => h⟩) rfl (fun a ww hw hf hd => by
               have h168 : a.eval (.tmp 168) = Value.int .i64 0 := ((knows_in 13 168 (by decide) (by kernel_rfl) rfl rfl) : Knows _ _ _ _ _ _ 14 _ _) a ww hw hf hd
               have hc := ec a
               revert hc h168
               generalize a.eval = ev
               intro hc h168
               unfold execOp
               simp only [hc, h168]
               go_simp)),
                 (step_ex _ rfl (.inl rfl) rfl (fun a ww hw hf hd => by
               have h166 : a.eval (.tmp 166) = Value.bool true := ((knows_in 11 166 (by decide) (by kernel_rfl) rfl rfl) : Knows _ _ _ _ _ _ 15 _ _) a ww hw hf hd
               have h169 : a.eval (.tmp 169) = Value.bool true := ((knows_in 14 169 (by decide) (by kernel_rfl) rfl rfl) : Knows _ _ _ _ _ _ 15 _ _) a ww hw hf hd
               have hc := ec a
               revert hc h166 h169
               generalize a.eval = ev
               intro hc h166 h169
               unfold execOp
               simp only [hc, h166, h169]
               go_simp)), trivial⟩ ?_
              intro val W12 hw hS _ _
              have e155 : val 155 = Value.bool false := hS 0 155 (by decide) rfl
              have e156 : val 156 = Value.bool true := hS 1 156 (by decide) rfl
              have e157 : val 157 = Value.bool true := hS 2 157 (by decide) rfl
              have e158 : val 158 = Value.int .i64 (L.length : Nat) := hS 3 158 (by decide) rfl
              have e159 : val 159 = Value.pointer (some ⟨q, 0, none⟩) := hS 4 159 (by decide) rfl
              have e160 : val 160 = Value.pointer (some ⟨q, 0, none⟩) := hS 5 160 (by decide) rfl
              have e161 : val 161 = Value.pointer (some ⟨q, 0, none⟩) := hS 6 161 (by decide) rfl
              have e162 : val 162 = Value.slice AL L.length cL := hS 7 162 (by decide) rfl
              have e163 : val 163 = Value.int .i64 (L.length : Nat) := hS 8 163 (by decide) rfl
              have e164 : val 164 = Value.bool true := hS 9 164 (by decide) rfl
              have e165 : val 165 = Value.bool true := hS 10 165 (by decide) rfl
              have e166 : val 166 = Value.bool true := hS 11 166 (by decide) rfl
              have e167 : val 167 = Value.pointer (some ⟨p, 0, none⟩) := hS 12 167 (by decide) rfl
              have e168 : val 168 = Value.int .i64 0 := hS 13 168 (by decide) rfl
              have e169 : val 169 = Value.bool true := hS 14 169 (by decide) rfl
              have e170 : val 170 = Value.bool true := hS 15 170 (by decide) rfl
              simp only [putVals, List.foldl_cons, List.foldl_nil, List.drop_succ_cons, List.drop_zero, Act.put, List.setIfInBounds_toArray, List.set_cons_succ, List.set_cons_zero, e155, e156, e157, e158, e159, e160, e161, e162, e163, e164, e165, e166, e167, e168, e169, e170]
              clear e155 e156 e157 e158 e159 e160 e161 e162 e163 e164 e165 e166 e167 e168 e169 e170 hS
              have b2t := b2s.next (show Below W9.heap.size W9 W12 from hw)
              have c2t := b2t.cell (i := 0) rfl
              have f2t := b2t.free 0
              have hKt : W12.heap[D]? = some (.deferred (some [])) := (hw.block D (Array.getElem?_eq_some_iff.1 hKs).1).trans hKs
              have hbt : Below w.heap.size w W12 := hbs.trans (Below.mono hw hbs.size)
              have b2u := b2t.set 0 (.bool true)
              clear b2s b7s b4s r0s hKs hCS9 hbs b2t hw
              go_wp2
              exact puts_end (w := w) ((Below.heap_setCell _ _ _ _ hDW).trans hKt) rfl rfl b2u (hbt.setCell (Nat.le_refl _) _) (Nat.le_refl _) hDw (fun W' h => ⟨rfl, h⟩)
        · intro D c pre W hD hS hno hK
          exact absurd hS hno
end Go.Proofs.Ytechhbljjnffaaa
