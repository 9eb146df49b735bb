/- CnfEvals, as a call: it returns true, and leaves what was as it was. No conditions. -/
import Derived.Test.YtkmcdbkdlalhdaaCnfEb
import Derived.Test.YtkmcdbkdlalhdaaCnfV
import Derived.Test.YtkmcdbkdlalhdaaCnfZ
namespace Go.Proofs.Ytkmcdbkdlalhdaa
open Go.RowKit Go.Maps Go.Lib Go.Sort
set_option linter.unusedVariables false
set_option linter.unusedSimpArgs false
set_option maxHeartbeats 4000000 in
theorem rgiven_no (N x : Int) (ls : List (List Int)) (A : Option Addr) (n cap B : Nat) (w : World) (hB : B ≤ w.heap.size) (h : Lists w B A n ls) (hl : n ≤ 100000) (hs : Short ls) (hno : rightF N ls = false ∨ lit N x = false) :
    Calls Try.prog 16 #[form N A n cap, .int .i64 x] w (RGPost w N ls) := by
  have HB2 := hid (below2 w (formO N A n cap 24) (.cells #[.int .i64 0, .slice none 0 0] 24))
  have HX0 : Hid (((w.alloc (formO N A n cap 24)).alloc (.cells #[.int .i64 0, .slice none 0 0] 24)).heap[w.heap.size]? = some (formO N A n cap 24)) := hid (old_block (below1 _ _) (by simp) (heap_alloc_new w _))
  have HY0 : Hid (((w.alloc (formO N A n cap 24)).alloc (.cells #[.int .i64 0, .slice none 0 0] 24)).heap[w.heap.size + 1]? = some (.cells #[.int .i64 0, .slice none 0 0] 24 (0, 0))) := hid (by rw [← World.size_alloc w (formO N A n cap 24)]; exact heap_alloc_new _ _)
  have HL0 := hid (h.below (HB2.out.mono hB))
  have HR11 := hid (rright_i N ls A n cap B ((w.alloc (formO N A n cap 24)).alloc (.cells #[.int .i64 0, .slice none 0 0] 24)) (Nat.le_trans hB HB2.out.size) HL0.out (by omega) hs)
  obtain ⟨Q, HQ⟩ : ∃ Q : Ending → World → Prop, Hid (Q = RGPost w N ls) := ⟨_, hid rfl⟩
  rw [← HQ.out]
  clear h
  cases e1 : rightF N ls
  case false =>
    rw [e1] at HR11
    clear hno e1
    go_enter Try.func16, Try.ntmps16
    go_wp2_with (go_at_call 11; go_must (refine HR11.out.mono ?_); rintro e w1 ⟨rfl, HB3⟩; have HX1 := hid (old_block HB3.out (by simp <;> omega) HX0.out); have hx1 := cells_at HX1.out; have HY1 := hid (old_block HB3.out (by simp <;> omega) HY0.out); have hy1 := cells_at HY1.out; have hf1 := frozen_no HY1.out; have HL1 := hid (HL0.out.below (HB3.out.mono (Nat.le_trans hB HB2.out.size))); have HBB := hid (after HB2.out HB3.out HB2.out.size))
    have HR := put2_heap (.int .i64 N) (.slice A n cap) HY1.out
    refine bodyPost_ret (v := form N A n cap) (res24 Try.results16 rfl HR) rfl ?_
    rw [HQ.out]
    exact ⟨A, n, cap, rfl, hid ((HL1.out.below (put2_below _ _ (Below.refl _ _) (by omega))).more (Nat.le_trans hB (put2_below _ _ HBB.out (by omega)).size)), hid (put2_below _ _ HBB.out (by omega))⟩
  case true =>
    have e2 : lit N x = false := by
      rcases hno with h | h
      · rw [e1] at h; cases h
      · exact h
    have h0 := (right_lit e1).1
    have HLx := hid (fun W => literal_r N x W false h0.1 (by omega) e2)
    rw [e1] at HR11
    clear hno e1 e2 h0
    go_enter Try.func16, Try.ntmps16
    go_wp2_with (first
      | (go_at_call 11; go_must (refine HR11.out.mono ?_); rintro e w1 ⟨rfl, HB3⟩; have HX1 := hid (old_block HB3.out (by simp <;> omega) HX0.out); have hx1 := cells_at HX1.out; have HY1 := hid (old_block HB3.out (by simp <;> omega) HY0.out); have hy1 := cells_at HY1.out; have hf1 := frozen_no HY1.out; have HL1 := hid (HL0.out.below (HB3.out.mono (Nat.le_trans hB HB2.out.size))); have HBB := hid (after HB2.out HB3.out HB2.out.size))
      | (go_at_call 30; go_must (refine (HLx.out _).mono ?_); rintro e w2 ⟨rfl, hw2⟩; obtain rfl := hw2.symm; clear hw2))
    have HR := put2_heap (.int .i64 N) (.slice A n cap) HY1.out
    refine bodyPost_ret (v := form N A n cap) (res24 Try.results16 rfl HR) rfl ?_
    rw [HQ.out]
    exact ⟨A, n, cap, rfl, hid ((HL1.out.below (put2_below _ _ (Below.refl _ _) (by omega))).more (Nat.le_trans hB (put2_below _ _ HBB.out (by omega)).size)), hid (put2_below _ _ HBB.out (by omega))⟩
theorem rgiven_i (N x : Int) (ls : List (List Int)) (A : Option Addr) (n cap B : Nat) (w : World) (hB : B ≤ w.heap.size) (h : Lists w B A n ls) (hl : n ≤ 100000) (hs : Short ls) :
    Calls Try.prog 16 #[form N A n cap, .int .i64 x] w (RGPost w N (givenF N ls x)) := by
  unfold givenF
  by_cases hc : rightF N ls = true ∧ lit N x = true
  · rw [if_pos hc]
    exact rgiven_yes N x ls A n cap B w hB h hl hs hc.1 hc.2
  · rw [if_neg hc]
    refine rgiven_no N x ls A n cap B w hB h hl hs ?_
    cases e1 : rightF N ls
    · exact .inl rfl
    · cases e2 : lit N x
      · exact .inr rfl
      · exact absurd ⟨e1, e2⟩ hc
theorem givenF_short {N x : Int} {ls : List (List Int)} (h : Short ls) : Short (givenF N ls x) := by
  unfold givenF; split
  · exact givL_short h
  · exact h
theorem givenF_len (N x : Int) (ls : List (List Int)) : (givenF N ls x).length ≤ ls.length := by
  unfold givenF; split
  · exact givL_len x ls
  · exact Nat.le_refl _
set_option maxRecDepth 100000 in
set_option maxHeartbeats 8000000 in
theorem evals_small (N : Int) (ls : List (List Int)) (m : List Bool) (x : Int) (A A2 : Option Addr) (n cap nm cap2 : Nat) (w : World) (h : Lists w w.heap.size A n ls) (hm : Bools w w.heap.size A2 nm m) (hli : lightF ls = true) (h100 : nm ≤ 100) (hx1 : -1000000 ≤ x) (hx2 : x ≤ 1000000) :
    Calls Try.prog 3 #[form N A n cap, .slice A2 nm cap2, .int .i64 x] w fun e w' => e = .returned (.bool true) ∧ Hid (Below w.heap.size w w') := by
  have HB1 := hid (below1 w (formO N A n cap 24))
  have HS0 : Hid (Snd w (w.alloc (formO N A n cap 24)) N A n cap ls A2 nm m) := hid ⟨HB1.out, heap_alloc_new _ _, h.below HB1.out, hm.below HB1.out⟩
  have HLi := hid (light_i N ls A n cap w.heap.size (w.alloc (formO N A n cap 24)) HB1.out.size HS0.out.ls)
  rw [hli] at HLi
  have HLS := hid (light_short hli)
  have HN := hid h.len
  have hn80 : n ≤ 80 := by have := HLS.out.2.1; have := HN.out; omega
  have h100' : ¬ 100 < (nm : Int) := by omega
  have g1 : ¬ x < -1000000 := by omega
  have g2 : ¬ 1000000 < x := by omega
  have HRt := hid (fun W (q : Snd w W N A n cap ls A2 nm m) => right_i N ls A n cap w.heap.size W q.below.size q.ls (by omega) HLS.out.1)
  have HRr := hid (fun W (q : Snd w W N A n cap ls A2 nm m) => rright_i N ls A n cap w.heap.size W q.below.size q.ls (by omega) HLS.out.1)
  have HE1 := hid (fun W (q : Snd w W N A n cap ls A2 nm m) => eval_i N ls m A A2 n cap nm cap2 w.heap.size W q.below.size q.ls q.m (by omega) (by omega) HLS.out.1)
  have HE2 := hid (fun W (q : Snd w W N A n cap ls A2 nm m) => reval_i N ls m A A2 n cap nm cap2 w.heap.size W q.below.size q.ls q.m (by omega) (by omega) HLS.out.1)
  have HG1 := hid (fun W (q : Snd w W N A n cap ls A2 nm m) => given_i N x ls A n cap w.heap.size W q.below.size q.ls (by omega) HLS.out.1)
  have HG2 := hid (fun W (q : Snd w W N A n cap ls A2 nm m) => rgiven_i N x ls A n cap w.heap.size W q.below.size q.ls (by omega) HLS.out.1)
  have HGs := hid (givenF_short (N := N) (x := x) HLS.out.1)
  have HGl := hid (givenF_len N x ls)
  obtain ⟨r, HR⟩ : ∃ r, Hid (rightF N ls = r) := ⟨_, hid rfl⟩
  rw [HR.out] at HRt HRr
  obtain ⟨t, HT⟩ : ∃ t, Hid (evalF N ls m = t) := ⟨_, hid rfl⟩
  rw [HT.out] at HE1 HE2
  obtain ⟨gs, HGS⟩ : ∃ gs, Hid (givenF N ls x = gs) := ⟨_, hid rfl⟩
  rw [HGS.out] at HG1 HG2 HGs HGl
  have HSm := hid (fun W (A A2 : Option Addr) (n cap cap2 : Nat) (q1 : Lists W W.heap.size A n gs) (q2 : Lists W W.heap.size A2 n gs) (hq : n ≤ 200000) => same_t N gs A A2 n cap cap2 W.heap.size W (Nat.le_refl _) q1 q2 hq HGs.out)
  clear h hm hli
  go_enter Try.func3, Try.ntmps3
  go_wp2_with (go_at_call 7; go_must (refine HLi.out.mono ?_); rintro e w1 ⟨rfl, HB2⟩; have HS1 := hid (HS0.out.later HB2.out); have hx1 := cells_at HS1.out.box)
  have HT0 := hid (HS1.out.later (below_drew1 w1))
  go_region_held3 (fun W => Hid (Snd w W N A n cap ls A2 nm m) ∧ ∀ i, W.cell? ⟨w.heap.size, i, none⟩ = (#[.int .i64 N, .slice A n cap] : Array Value)[i]?)
    (first | exact ⟨HT0, cells_at HT0.out.box⟩ | exact ⟨HT1, cells_at HT1.out.box⟩ | exact ⟨HT2, cells_at HT2.out.box⟩ | exact ⟨HT3, cells_at HT3.out.box⟩ | exact ⟨HT4, cells_at HT4.out.box⟩ | exact ⟨HT5, cells_at HT5.out.box⟩ | exact ⟨HT6, cells_at HT6.out.box⟩ | exact ⟨HT7, cells_at HT7.out.box⟩ | exact ⟨HT8, cells_at HT8.out.box⟩ | exact ⟨HT9, cells_at HT9.out.box⟩ | exact ⟨HTa, cells_at HTa.out.box⟩ | exact ⟨HTb, cells_at HTb.out.box⟩)
    (first
      | (go_at_call 10; have tok := HT0; clear HT0; go_must (refine (own_i _ _ _ _ _).mono ?_); rintro e v1 ⟨rfl, hb⟩; have HT1 := hid (tok.out.later hb.out); clear hb tok)
      | (go_at_call 9; have tok := HT1; clear HT1; go_must (refine (HRt.out _ tok.out).mono ?_); rintro e v2 ⟨rfl, hb⟩; have HT2 := hid (tok.out.later hb.out); clear hb tok)
      | (go_at_call 11; have tok := HT2; clear HT2; go_must (refine (HRr.out _ tok.out).mono ?_); rintro e v3 ⟨rfl, hb⟩; have HT3 := hid (tok.out.later hb.out); clear hb tok)
      | (go_at_call 10; have tok := HT3; clear HT3; go_must (refine (own_i _ _ _ _ _).mono ?_); rintro e v4 ⟨rfl, hb⟩; have HT4 := hid (tok.out.later hb.out); clear hb tok)
      | (go_at_call 12; have tok := HT4; clear HT4; go_must (refine (HE1.out _ tok.out).mono ?_); rintro e v5 ⟨rfl, hb⟩; have HT5 := hid (tok.out.later hb.out); clear hb tok)
      | (go_at_call 13; have tok := HT5; clear HT5; go_must (refine (HE2.out _ tok.out).mono ?_); rintro e v6 ⟨rfl, hb⟩; have HT6 := hid (tok.out.later hb.out); clear hb tok)
      | (go_at_call 10; have tok := HT6; clear HT6; go_must (refine (own_i _ _ _ _ _).mono ?_); rintro e v7 ⟨rfl, hb⟩; have HT7 := hid (tok.out.later hb.out); clear hb tok)
      | (go_at_call 15; have tok := HT7; clear HT7; go_must (refine (HG1.out _ tok.out).mono ?_); rintro e v8 ⟨B9, n9, c9, rfl, HO9, hb⟩; have HT8 := hid (tok.out.later hb.out); have HK9 := hid HO9.out.lists; clear hb tok HO9)
      | (go_at_call 16; have tok := HT8; clear HT8; go_must (refine (HG2.out _ tok.out).mono ?_); rintro e v9 ⟨B8, n8, c8, rfl, HK8, hb⟩; have HT9 := hid (tok.out.later hb.out); have HK9 := hid ((HK9.out.below hb.out).more hb.out.size); have hn8 : n8 = n9 := (by have h1 := HK8.out.len; have h2 := HK9.out.len; omega); subst hn8; have hn9 : n8 ≤ 200000 := (by have h1 := HK8.out.len; have h2 := HGl.out; have h3 := HN.out; omega); clear hb tok)
      | (go_at_call 14; have tok := HT9; clear HT9; go_must (refine (HSm.out _ _ _ _ _ _ HK9.out HK8.out hn9).mono ?_); rintro e va ⟨rfl, hb⟩; have HTa := hid (tok.out.later hb.out); clear hb tok)
      | (go_at_call 8; have tok := HTa; clear HTa; go_must (refine (alive_i _).mono ?_); rintro e vb ⟨rfl, hb⟩; have HTb := hid (tok.out.later hb.out); clear hb tok))
  go_wp2
  go_ret
  exact ⟨rfl, hid HTb.out.below⟩
end Go.Proofs.Ytkmcdbkdlalhdaa
