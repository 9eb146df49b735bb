/- TokenBack, as a call: it returns true, and leaves what was as it was. No conditions. -/
import Derived.Test.YtpaenaofebdgiaaSm
namespace Go.Proofs.Ytpaenaofebdgiaa
open Go.RowKit
set_option linter.unusedVariables false
set_option linter.unusedSimpArgs false
def toTk (t : T) : Tk := ⟨t.kind, ⟨⟨t.text⟩⟩, t.num, t.line, t.col⟩
theorem toTk_cells (ts : List T) : (ts.map toTk).flatMap tkCells = (ts.map elT).flatMap tokCells := by
  induction ts with
  | nil => rfl
  | cons t r ih => simp only [List.map_cons, List.flatMap_cons, ih]; rfl
theorem tks_keys : ∀ (ts us : List T), ts.map keyT = us.map keyT → tksSame (ts.map toTk) (us.map toTk) = true
  | [], [], _ => rfl
  | [], _ :: _, h => by simp at h
  | _ :: _, [], h => by simp at h
  | t :: r, u :: q, h => by
    simp only [List.map_cons, List.cons.injEq] at h
    simp only [List.map_cons, tksSame]
    rw [tks_keys r q h.2, Bool.and_true]
    have h1 := h.1
    unfold keyT at h1
    injection h1 with a b
    injection b with b c
    simp only [tkSame, toTk, a, b, c]
    simp
theorem textK_keys (ts : List T) : textK (ts.map toTk) = joinK (ts.map keyT) := by
  unfold textK joinK strs
  congr 1
  induction ts with
  | nil => rfl
  | cons t r ih =>
    have e : (((t.kind : Nat) : Int) != 5) = (t.kind != 5) := by
      rw [Bool.eq_iff_iff]; simp [bne_iff_ne]; omega
    simp only [List.map_cons, List.filter_cons, toTk, keyT] at ih ⊢
    rw [e]
    split
    · simp only [List.map_cons]; rw [ih]
    · exact ih
/-- Scan of a text that is right. -/
theorem scan_tk (s : ByteArray) (xs : List Tk) (w : World) (hs : s.size ≤ 1000000) (hd : (scanL s.data.toList).2 = none) (h0 : (scanL s.data.toList).1.length ≠ 0) (hx : xs = (scanL s.data.toList).1.map toTk) :
    Calls Try.prog 14 #[.string s] w fun e w' => ∃ g cap, e = .returned (.tuple #[.slice (some ⟨g, 0, none⟩) xs.length cap, .agg #[.int .i64 0, .int .i64 0, .int .i64 0, .int .i64 0]]) ∧ xs.length ≤ cap ∧ cap ≤ 9223372036854775807 ∧ Hid (Below w.heap.size w w') ∧ Hid (Lies w' g 0 xs) := by
  refine (scan_ok s w hs hd h0).mono ?_
  rintro e w' ⟨g, cap, rfl, h1, h2, hb, hg, hc⟩
  have hl : xs.length = (scanL s.data.toList).1.length := by rw [hx, List.length_map]
  rw [← hl] at h1 ⊢
  refine ⟨g, cap, rfl, h1, h2, hb, hg.out.2, fun j u hu => ?_⟩
  rw [Nat.zero_add]
  exact hc.out j u (by rw [hx, toTk_cells] at hu; exact hu)
theorem lies_up {w W : World} {g o : Nat} {xs : List Tk} (h : Lies w g o xs) (hb : Below w.heap.size w W) (D : Obj) : Lies (W.alloc D) g o xs :=
  h.below (hb.alloc hb.size _)
theorem below_a {w w1 w2 : World} {D : Obj} (h : Below w.heap.size w w1) (k : Below (w1.alloc D).heap.size (w1.alloc D) w2) : Below w.heap.size w w2 :=
  (h.alloc h.size D).trans (k.mono (by have := h.size; rw [World.size_alloc]; omega))
theorem old_new {w W : World} {v : Array Value} {t : TypeId} (h : Below (w.alloc (.cells v t)).heap.size (w.alloc (.cells v t)) W) : W.heap[w.heap.size]? = some (.cells v t (0, 0)) :=
  (h.block _ (by rw [World.size_alloc]; omega)).trans (heap_alloc_new _ _)
theorem blk4_alloc {W : World} {k t : Nat} {v0 v1 v2 v3 : Value} (h : W.heap[k]? = some (.cells #[v0, v1, v2, v3] t (0, 0))) (o : Obj) :
    ((W.alloc o).cell? ⟨k, 0, none⟩ = some v0 ∧ (W.alloc o).cell? ⟨k, 1, none⟩ = some v1 ∧ (W.alloc o).cell? ⟨k, 2, none⟩ = some v2 ∧ (W.alloc o).cell? ⟨k, 3, none⟩ = some v3) ∧
    ((W.alloc o).frozen? ⟨k, 0, none⟩ = false ∧ (W.alloc o).frozen? ⟨k, 1, none⟩ = false ∧ (W.alloc o).frozen? ⟨k, 2, none⟩ = false ∧ (W.alloc o).frozen? ⟨k, 3, none⟩ = false) :=
  blk4 ((Below.heap_alloc W o k (Array.getElem?_eq_some_iff.1 h).1).trans h)
set_option maxRecDepth 100000 in
set_option maxHeartbeats 8000000 in
theorem back_big (s : ByteArray) (w : World) (hs : 3000 < s.size) :
    Calls Try.prog 4 #[.string s] w fun e w' => e = .returned (.bool true) ∧ Below w.heap.size w w' := by
  have h1 : (3000 : Int) < (s.size : Int) := by omega
  go_enter Try.func4, Try.ntmps4
  go_wp2_with (go_at_call 5; refine (alive_i _).mono ?_; rintro e w1 ⟨rfl, hb⟩)
  go_ret
  exact ⟨rfl, hb⟩
set_option maxRecDepth 100000 in
set_option maxHeartbeats 8000000 in
theorem back_bad (s : ByteArray) (w : World) (hs : s.size ≤ 3000) {d : D} (hd : (scanL s.data.toList).2 = some d) :
    Calls Try.prog 4 #[.string s] w fun e w' => e = .returned (.bool true) ∧ Below w.heap.size w w' := by
  have h1 : ¬ (3000 : Int) < (s.size : Int) := by omega
  have hf := eachL_fault _ _ _ _ _ d hd
  have hf0 : ((d.fault : Int) != 0) = true := by rcases hf with e | e <;> rw [e] <;> rfl
  clear hf
  have HD := hid hd
  clear hd
  go_enter Try.func4, Try.ntmps4
  go_wp2_with (first
    | (go_at_call 14; refine (scan_bad s _ (by omega) HD.out).mono ?_; rintro e w1 ⟨rfl, hb⟩)
    | (go_at_call 5; refine (alive_i _).mono ?_; rintro e w2 ⟨rfl, hb2⟩; have HB2 := hid hb2; clear hb2))
  go_ret
  exact ⟨rfl, (hb.out.trans ((Below.refl _ w1).alloc hb.out.size _)).trans (HB2.out.mono (by have := hb.out.size; simp only [World.size_alloc]; omega))⟩
set_option maxRecDepth 100000 in
set_option maxHeartbeats 8000000 in
theorem back_ok (s : ByteArray) (w : World) (hs : s.size ≤ 3000) (hd : (scanL s.data.toList).2 = none) :
    Calls Try.prog 4 #[.string s] w fun e w' => e = .returned (.bool true) ∧ Below w.heap.size w w' := by
  have h1 : ¬ (3000 : Int) < (s.size : Int) := by omega
  have hlex := lex_scan hd
  have ht := join_text hlex
  have htl := lex_text hlex
  have har := lex_around hlex
  have hz := text_len hlex
  rw [← Lib.size_eq] at hz
  obtain ⟨xs, hxs⟩ : ∃ xs, xs = (scanL s.data.toList).1.map toTk := ⟨_, rfl⟩
  have htx : textK xs = txtL ((scanL s.data.toList).1.map keyT) := by rw [hxs, textK_keys, ht]
  have h0 : (scanL s.data.toList).1.length ≠ 0 := fun e => by
    have := lex_ne hlex
    rw [List.eq_nil_of_length_eq_zero e] at this; exact this rfl
  have hn : xs.length ≤ 3002 := by
    have := eachL_len s.data.toList (s.data.toList.length + 1) 0 1 0
    have e : (elems (scanL s.data.toList)).length = (scanL s.data.toList).1.length := by simp [elems, hd]
    rw [show eachL s.data.toList (s.data.toList.length + 1) 0 1 0 = scanL s.data.toList from rfl, e, ← Lib.size_eq] at this
    rw [hxs, List.length_map]; omega
  obtain ⟨t1, ht1⟩ : ∃ t1 : ByteArray, t1 = ⟨⟨textK xs⟩⟩ := ⟨_, rfl⟩
  have h1l : t1.data.toList = txtL ((scanL s.data.toList).1.map keyT) := by rw [ht1]; exact htx
  have ht1z : t1.size ≤ 6000 := by rw [Lib.size_eq, h1l]; omega
  obtain ⟨hd1, hk1⟩ := scan_lex (src := t1.data.toList) (by rw [h1l]; exact htl)
  obtain ⟨t3, ht3⟩ : ∃ t3 : ByteArray, t3 = (⟨#[32, 10, 9]⟩ ++ s) ++ ⟨#[10, 47, 47, 32, 120, 45, 62, 121]⟩ := ⟨_, rfl⟩
  have h3l : t3.data.toList = [32, 10, 9] ++ s.data.toList ++ [10, 47, 47, 32, 120, 45, 62, 121] := by rw [ht3]; simp
  have ht3z : t3.size ≤ 3011 := by rw [Lib.size_eq, h3l]; simp; omega
  obtain ⟨hd3, hk3⟩ := scan_lex (src := t3.data.toList) (by rw [h3l]; exact har)
  obtain ⟨ys, hys⟩ : ∃ ys, ys = (scanL t1.data.toList).1.map toTk := ⟨_, rfl⟩
  obtain ⟨zs, hzs⟩ : ∃ zs, zs = (scanL t3.data.toList).1.map toTk := ⟨_, rfl⟩
  have hy0 : (scanL t1.data.toList).1.length ≠ 0 := fun e => h0 (by have := congrArg List.length hk1; simp only [List.length_map] at this; omega)
  have hz0 : (scanL t3.data.toList).1.length ≠ 0 := fun e => h0 (by have := congrArg List.length hk3; simp only [List.length_map] at this; omega)
  have S12 := hid (show tksSame xs ys = true from by rw [hxs, hys]; exact tks_keys _ _ hk1.symm)
  have S13 := hid (show tksSame xs zs = true from by rw [hxs, hzs]; exact tks_keys _ _ hk3.symm)
  have hyl : ys.length = xs.length := by have := congrArg List.length hk1; simp only [List.length_map] at this; rw [hys, hxs, List.length_map, List.length_map, this]
  have hzl : zs.length = xs.length := by have := congrArg List.length hk3; simp only [List.length_map] at this; rw [hzs, hxs, List.length_map, List.length_map, this]
  have C1 := hid (fun w => scan_tk s xs w (by omega) hd h0 hxs)
  have C2 := hid (fun w => scan_tk t1 ys w (by omega) hd1 hy0 hys)
  have C3 := hid (fun w => scan_tk t3 zs w (by omega) hd3 hz0 hzs)
  have CT := hid (fun g cap w (hL : Lies w g 0 xs) (h1 : xs.length ≤ cap) (h2 : cap ≤ 9223372036854775807) => show Calls Try.prog 10 #[.slice (some ⟨g, 0, none⟩) xs.length cap] w fun e w' => e = .returned (.string t1) ∧ Hid (Below w.heap.size w w') from by
    rw [ht1]; exact text_i xs g 0 cap w hL (by omega) h1 h2 (by rw [htx]; omega))
  have HYL := hid hyl
  have HZL := hid hzl
  have HT3 := hid ht3
  have hx3 : (⟨#[32, 10, 9]⟩ ++ s) ++ ⟨#[10, 47, 47, 32, 120, 45, 62, 121]⟩ = t3 := ht3.symm
  have HX3 := hid hx3
  clear hx3 hyl hzl hy0 hz0 hys hzs hk1 hk3 hd1 hd3 ht3z h3l ht3 ht1z h1l ht1 h0 htx hxs hz har htl ht hlex hd
  go_enter Try.func4, Try.ntmps4
  go_wp2_with (first
    | (go_at_call 14; (with_reducible refine (C1.out _).mono ?_); rintro e w1 ⟨g1, cap1, rfl, ha1, hb1, HB1, HL1⟩)
    | (go_at_call 10; (with_reducible refine (CT.out g1 cap1 _ (lies_up HL1.out (Below.refl _ _) _) ha1 hb1).mono ?_); rintro e w2 ⟨rfl, HB2⟩; have A2 := hid ((lies_up HL1.out (Below.refl _ _) _).below HB2.out); have Q2 := hid (below_a HB1.out HB2.out))
    | (go_at_call 14; (with_reducible refine (C2.out _).mono ?_); rintro e w3 ⟨g2, cap2, rfl, ha2, hb2, HB3, HL2⟩; have A3 := hid (A2.out.below HB3.out); have Q3 := hid (Q2.out.trans (HB3.out.mono Q2.out.size))))
  rw [HX3.out]
  have T1 := hid trivial
  clear HB1 HB2 HB3 HL1 A2 Q2
  go_wp2_with (first
    | (go_at_call 14; (with_reducible refine (C3.out _).mono ?_); rintro e w4 ⟨g3, cap3, rfl, ha3, hb3, HB4, HL3⟩
       have A4 := hid ((lies_up A3.out (Below.refl _ _) _).below HB4.out)
       have M4 := hid ((lies_up HL2.out (Below.refl _ _) _).below HB4.out)
       have Q4 := hid (below_a Q3.out HB4.out)
       have D2 := hid (old_new HB4.out)
       have d0 := fun o => (blk4_alloc D2.out o).1.1
       have d1 := fun o => (blk4_alloc D2.out o).1.2.1
       have d2 := fun o => (blk4_alloc D2.out o).1.2.2.1
       have d3 := fun o => (blk4_alloc D2.out o).1.2.2.2)
    | (go_at_call 12; have tok := T1; clear T1; (with_reducible refine (same_i xs ys g1 0 cap1 g2 0 cap2 true _ S12.out (lies_up A4.out (Below.refl _ _) _) (lies_up M4.out (Below.refl _ _) _) (by omega) (by have := HYL.out; omega) ha1 ha2 hb1 hb2).mono ?_); rintro e w5 ⟨rfl, HB5⟩; clear tok
       have A5 := hid ((lies_up A4.out (Below.refl _ _) _).below HB5.out)
       have N5 := hid ((lies_up HL3.out (Below.refl _ _) _).below HB5.out)
       have Q5 := hid (below_a Q4.out HB5.out)
       have D3 := hid (old_new HB5.out)
       have z := blk4 D3.out
       obtain ⟨⟨f0, f1, f2, f3⟩, -⟩ := z)
    | (go_at_call 12; (with_reducible refine (same_i xs zs g1 0 cap1 g3 0 cap3 true _ S13.out A5.out N5.out (by omega) (by have := HZL.out; omega) ha1 ha3 hb1 hb3).mono ?_); rintro e w6 ⟨rfl, HB6⟩; have Q6 := hid (Q5.out.trans (HB6.out.mono Q5.out.size)))
    | (go_at_call 5; refine (alive_i _).mono ?_; rintro e w7 ⟨rfl, hb7⟩; have HB7 := hid hb7; clear hb7))
  go_ret
  exact ⟨rfl, Q6.out.trans (HB7.out.mono Q6.out.size)⟩
/-- **TokenBack returns true, and leaves what was as it was.** -/
theorem tokenBack_i (s : ByteArray) (w : World) : Calls Try.prog 4 #[.string s] w fun e w' => e = .returned (.bool true) ∧ Below w.heap.size w w' := by
  by_cases hs : 3000 < s.size
  · exact back_big s w hs
  · cases hd : (scanL s.data.toList).2 with
    | none => exact back_ok s w (by omega) hd
    | some d => exact back_bad s w (by omega) hd
end Go.Proofs.Ytpaenaofebdgiaa
