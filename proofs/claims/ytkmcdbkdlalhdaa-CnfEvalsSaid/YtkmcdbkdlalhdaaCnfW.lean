/- What is left of a formula given a literal, by the program. Conditions: at most 100000 clauses of at most 100000 numbers. -/
import Derived.Test.YtkmcdbkdlalhdaaCnfP
import Derived.Test.YtkmcdbkdlalhdaaCnfU
namespace Go.Proofs.Ytkmcdbkdlalhdaa
open Go.RowKit Go.Maps Go.Lib Go.Sort
set_option linter.unusedVariables false
set_option linter.unusedSimpArgs false
/-- A formula that the call puts together. -/
structure Bt (w : World) (base g t : Nat) (N : Int) (A : Option Addr) (n c : Nat) (ls : List (List Int)) : Prop where
  box : w.heap[g]? = some (.cells #[.int .i64 N, .slice A n c] t (0, 0))
  lo : base ≤ g
  row : OwnL w base A n c ls
theorem Bt.below {w w' : World} {base g t n c : Nat} {N : Int} {A : Option Addr} {ls : List (List Int)} (h : Bt w base g t N A n c ls) (hb : Below w.heap.size w w') : Bt w' base g t N A n c ls :=
  ⟨old_block hb (Array.getElem?_eq_some_iff.1 h.box).1 h.box, h.lo, h.row.below hb⟩
theorem bt_push {W : World} {base g t k c n2 c2 : Nat} {N : Int} {A A2 : Option Addr} {ls : List (List Int)} {xs : List Int} (HB : Bt W base g t N A k c ls) (HO : Own W base A2 n2 c2 xs) (o : Obj) (hb : base ≤ W.heap.size) (h3 : t ≠ 3) (h40 : t ≠ 40) :
    ∃ vs, (W.alloc o).ownsRow base 40 1 (.slice A k c) k vs ∧ ∀ v w', w'.ownsRow base 40 1 v (k + 1) (vs ++ [.slice A2 n2 c2]) → (W.alloc o).grownBy w' (Value.ownBlock (.slice A k c)) →
      ∃ A' c', v = .slice A' (k + 1) c' ∧ w'.heap[g]? = some (.cells #[.int .i64 N, .slice A k c] t (0, 0)) ∧ Bt (w'.setCell ⟨g, 1, none⟩ (.slice A' (k + 1) c')) base g t N A' (k + 1) c' (ls ++ [xs]) ∧ Below base W (w'.setCell ⟨g, 1, none⟩ (.slice A' (k + 1) c')) ∧
        ∀ (j t' : Nat) (cs : Array Value), t' ≠ 40 → j ≠ g → W.heap[j]? = some (.cells cs t' (0, 0)) → (w'.setCell ⟨g, 1, none⟩ (.slice A' (k + 1) c')).heap[j]? = some (.cells cs t' (0, 0)) := by
  obtain ⟨vs, q1, q2⟩ := push_facts HB.row HO o
  refine ⟨vs, q1, fun v w' hw hg => ?_⟩
  obtain ⟨A', c', rfl, hl, hbe, hk⟩ := q2 v w' hw hg
  have hbox := hk g t _ h40 HB.box
  refine ⟨A', c', rfl, hbox, ⟨(set_at _ hbox).2, HB.lo, hl.set1 hbox h3 h40 1 _⟩, (hbe hb).setCell HB.lo _, fun j t' cs ht hne hj => ?_⟩
  have := hk j t' cs ht hj
  simp [World.setCell, Array.getElem?_modify, Ne.symm hne, this]
def givL (x : Int) (ls : List (List Int)) : List (List Int) := (ls.filter fun c => !c.contains x).map fun c => wo c (-x)
def givenF (N : Int) (ls : List (List Int)) (x : Int) : List (List Int) := if rightF N ls = true ∧ lit N x = true then givL x ls else ls
theorem giv_in {x : Int} {ls : List (List Int)} {k : Nat} {c : List Int} (h : ls[k]? = some c) (hc : c.contains x = true) : givL x (ls.take (k + 1)) = givL x (ls.take k) := by
  rw [← take_push h]
  have h2 : ([c].filter fun c => !c.contains x) = [] := by rw [List.filter_cons, hc]; rfl
  unfold givL
  rw [List.filter_append, h2, List.append_nil]
theorem giv_out {x : Int} {ls : List (List Int)} {k : Nat} {c : List Int} (h : ls[k]? = some c) (hc : c.contains x = false) : givL x (ls.take (k + 1)) = givL x (ls.take k) ++ [wo c (-x)] := by
  rw [← take_push h]
  have h2 : ([c].filter fun c => !c.contains x) = [c] := by rw [List.filter_cons, hc]; rfl
  unfold givL
  rw [List.filter_append, h2, List.map_append]
  rfl
theorem givL_len (x : Int) (ls : List (List Int)) : (givL x ls).length ≤ ls.length := by
  unfold givL; rw [List.length_map]; exact List.length_filter_le _ _
set_option maxHeartbeats 1000000 in
theorem given_no (N x : Int) (ls : List (List Int)) (A : Option Addr) (n cap B : Nat) (w : World) (hB : B ≤ w.heap.size) (h : Lists w B A n ls) (hl : n ≤ 100000) (hs : Short ls) (hno : rightF N ls = false ∨ lit N x = false) :
    Calls Try.prog 15 #[form N A n cap, .int .i64 x] w (FormPost w N ls) := by
  have HB2 := hid (below2 w (formO N A n cap 29) (.cells #[.int .i64 0, .slice none 0 0] 29))
  have HX0 : Hid (((w.alloc (formO N A n cap 29)).alloc (.cells #[.int .i64 0, .slice none 0 0] 29)).heap[w.heap.size]? = some (formO N A n cap 29)) := hid (old_block (below1 _ _) (by simp) (heap_alloc_new w _))
  have HY0 : Hid (((w.alloc (formO N A n cap 29)).alloc (.cells #[.int .i64 0, .slice none 0 0] 29)).heap[w.heap.size + 1]? = some (.cells #[.int .i64 0, .slice none 0 0] 29 (0, 0))) := hid (by rw [← World.size_alloc w (formO N A n cap 29)]; exact heap_alloc_new _ _)
  have HL0 := hid (h.below (HB2.out.mono hB))
  have HR9 := hid (right_i N ls A n cap B ((w.alloc (formO N A n cap 29)).alloc (.cells #[.int .i64 0, .slice none 0 0] 29)) (Nat.le_trans hB HB2.out.size) HL0.out (by omega) hs)
  have HC := hid (fun W (q : Lists W B A n ls) (hq : B ≤ W.heap.size) => copied_i N ls A n cap B W hq q (by omega) hs)
  obtain ⟨Q, HQ⟩ : ∃ Q : Ending → World → Prop, Hid (Q = FormPost w N ls) := ⟨_, hid rfl⟩
  rw [← HQ.out]
  clear h
  cases e1 : rightF N ls
  case false =>
    rw [e1] at HR9
    clear hno e1
    go_enter Try.func15, Try.ntmps15
    go_wp2_with (first
      | (go_at_call 9; go_must (refine HR9.out.mono ?_); rintro e w1 ⟨rfl, HB3⟩; have HX1 := hid (old_block HB3.out (by simp <;> omega) HX0.out); have hx1 := cells_at HX1.out; have HY1 := hid (old_block HB3.out (by simp <;> omega) HY0.out); have HL1 := hid (HL0.out.below (HB3.out.mono (Nat.le_trans hB HB2.out.size))); have HBB := hid (after HB2.out HB3.out HB2.out.size))
      | (go_at_call 33; go_must (refine (HC.out _ HL1.out (Nat.le_trans hB HBB.out.size)).mono ?_); rintro e w2 ⟨A2, c2, rfl, HO2, HB4⟩; have HY2 := hid (old_block HB4.out (Array.getElem?_eq_some_iff.1 HY1.out).1 HY1.out); have hy2 := cells_at HY2.out; have hf2 := frozen_no HY2.out; have HBC := hid (after HBB.out HB4.out HBB.out.size)))
    have HR := put2_heap (.int .i64 N) (.slice A2 n c2) HY2.out
    have HO3 := HO2.out.put2 HY2.out (by decide) (by decide) (.int .i64 N) (.slice A2 n c2)
    refine bodyPost_ret (v := form N A2 n c2) (res29 Try.results15 rfl HR) rfl ?_
    rw [HQ.out]
    exact ⟨A2, n, c2, rfl, hid (HO3.low HBB.out.size), hid (put2_below _ _ HBC.out (by omega))⟩
  case true =>
    have e2 : lit N x = false := by
      rcases hno with h | h
      · rw [e1] at h; cases h
      · exact h
    have h0 := (right_lit e1).1
    have HLx := hid (literal_i x N · h0.1 (by omega))
    rw [e2] at HLx
    rw [e1] at HR9
    clear hno e1 e2 h0
    go_enter Try.func15, Try.ntmps15
    go_wp2_with (first
      | (go_at_call 9; go_must (refine HR9.out.mono ?_); rintro e w1 ⟨rfl, HB3⟩; have HX1 := hid (old_block HB3.out (by simp <;> omega) HX0.out); have hx1 := cells_at HX1.out; have HY1 := hid (old_block HB3.out (by simp <;> omega) HY0.out); have HL1 := hid (HL0.out.below (HB3.out.mono (Nat.le_trans hB HB2.out.size))); have HBB := hid (after HB2.out HB3.out HB2.out.size))
      | (go_at_call 32; go_must (refine (HLx.out _).mono ?_); rintro e w2 ⟨rfl, hw2⟩; obtain rfl := hw2.symm; clear hw2)
      | (go_at_call 33; go_must (refine (HC.out _ HL1.out (Nat.le_trans hB HBB.out.size)).mono ?_); rintro e w2 ⟨A2, c2, rfl, HO2, HB4⟩; have HY2 := hid (old_block HB4.out (Array.getElem?_eq_some_iff.1 HY1.out).1 HY1.out); have hy2 := cells_at HY2.out; have hf2 := frozen_no HY2.out; have HBC := hid (after HBB.out HB4.out HBB.out.size)))
    have HR := put2_heap (.int .i64 N) (.slice A2 n c2) HY2.out
    have HO3 := HO2.out.put2 HY2.out (by decide) (by decide) (.int .i64 N) (.slice A2 n c2)
    refine bodyPost_ret (v := form N A2 n c2) (res29 Try.results15 rfl HR) rfl ?_
    rw [HQ.out]
    exact ⟨A2, n, c2, rfl, hid (HO3.low HBB.out.size), hid (put2_below _ _ HBC.out (by omega))⟩
end Go.Proofs.Ytkmcdbkdlalhdaa
