/- IrLooks, as a call: it returns true, and leaves what was as it was. No conditions. -/
import Derived.Test.YtplpjckkocccfaaIrQa
import Derived.Deep.RegionHeld3
namespace Go.Proofs.Ytplpjckkocccfaa
open Go.RowKit Go.Maps
set_option linter.unusedVariables false
set_option linter.unusedSimpArgs false
set_option maxRecDepth 100000 in
set_option maxHeartbeats 16000000 in
theorem looks_core (p q : Int) (D : Int) (Bo : Bool) (R N : List Int) (s : ByteArray) (op d a b to el : Int) (c4 c5 c6 c8 c11 c12 : Value) (ao : Option Addr) (n cap : Nat) (w : World) (g1 : ¬ 40 < (n : Int)) (g2 : ¬ p < 0) (g3 : ¬ 10000 < p)
    (k6 : ∀ W, Calls Try.prog 6 #[ins op d a b c4 c5 c6 (.slice ao n cap) c8 to el c11 c12] W fun e w' => e = .returned (.tuple #[.int .i64 D, .bool Bo]) ∧ Hid (Below W.heap.size W w'))
    (k7 : ∀ W, Calls Try.prog 7 #[ins op d a b c4 c5 c6 (.slice ao n cap) c8 to el c11 c12] W fun e w' => e = .returned (.tuple #[.int .i64 D, .bool Bo]) ∧ Hid (Below W.heap.size W w'))
    (k9 : ∀ W, Below w.heap.size w W → Calls Try.prog 9 #[ins op d a b c4 c5 c6 (.slice ao n cap) c8 to el c11 c12] W fun e w' => ∃ v, e = .returned v ∧ Hid (IsRow w' v R) ∧ Hid (Below W.heap.size W w'))
    (k10 : ∀ W, Below w.heap.size w W → Calls Try.prog 10 #[ins op d a b c4 c5 c6 (.slice ao n cap) c8 to el c11 c12] W fun e w' => ∃ v, e = .returned v ∧ Hid (IsRow w' v R) ∧ Hid (Below W.heap.size W w'))
    (k11 : ∀ W, Calls Try.prog 11 #[ins op d a b c4 c5 c6 (.slice ao n cap) c8 to el c11 c12, .int .i64 p] W fun e w' => ∃ v, e = .returned v ∧ Hid (IsRow w' v N) ∧ Hid (Below W.heap.size W w'))
    (k12 : ∀ W, Calls Try.prog 12 #[ins op d a b c4 c5 c6 (.slice ao n cap) c8 to el c11 c12, .int .i64 p] W fun e w' => ∃ v, e = .returned v ∧ Hid (IsRow w' v N) ∧ Hid (Below W.heap.size W w'))
    (k13 : ∀ W, Calls Try.prog 13 #[.int .i64 q] W fun e w' => e = .returned (.string s) ∧ Hid (Below W.heap.size W w'))
    (k14 : ∀ W, Calls Try.prog 14 #[.int .i64 q] W fun e w' => e = .returned (.string s) ∧ Hid (Below W.heap.size W w'))
    (hl : R.length ≤ 1000 ∧ N.length ≤ 1000) :
    Calls Try.prog 3 #[ins op d a b c4 c5 c6 (.slice ao n cap) c8 to el c11 c12, .int .i64 p, .int .i64 q] w fun e w' => e = .returned (.bool true) ∧ Hid (Below w.heap.size w w') := by
  have HL := hid hl
  have C6 := hid k6
  have C7 := hid k7
  have C9 := hid k9
  have C10 := hid k10
  have C11 := hid k11
  have C12 := hid k12
  have C13 := hid k13
  have C14 := hid k14
  have HC := hid (below1 w (.cells #[.int .i64 op, .int .i64 d, .int .i64 a, .int .i64 b, c4, c5, c6, .slice ao n cap, c8, .int .i64 to, .int .i64 el, c11, c12] 26))
  have HX := hid (heap_alloc_new w (.cells #[.int .i64 op, .int .i64 d, .int .i64 a, .int .i64 b, c4, c5, c6, .slice ao n cap, c8, .int .i64 to, .int .i64 el, c11, c12] 26))
  clear k6 k7 k9 k10 k11 k12 k13 k14 hl
  go_enter Try.func3, Try.ntmps3
  go_wp2_with (first
    | (go_at_call 6; have tok := HC; clear HC; have tox := HX; clear HX; go_must (refine (C6.out _).mono ?_); rintro e w1 ⟨rfl, hb⟩; have HC := hid (after tok.out hb.out tok.out.size); have HX := hid (old_block hb.out (Array.getElem?_eq_some_iff.1 tox.out).1 tox.out); clear hb tok tox; have hx1 := cells_at HX.out)
    | (go_at_call 7; have tok := HC; clear HC; have tox := HX; clear HX; go_must (refine (C7.out _).mono ?_); rintro e w2 ⟨rfl, hb⟩; have HC := hid (after tok.out hb.out tok.out.size); have HX := hid (old_block hb.out (Array.getElem?_eq_some_iff.1 tox.out).1 tox.out); clear hb tok tox hx1; have hx2 := cells_at HX.out))
  have HD0 := hid HC.out.drew
  have HY0 : Hid (w2.drew.heap[w.heap.size]? = some (.cells #[.int .i64 op, .int .i64 d, .int .i64 a, .int .i64 b, c4, c5, c6, .slice ao n cap, c8, .int .i64 to, .int .i64 el, c11, c12] 26 (0, 0))) := hid HX.out
  clear HC HX g1 g2 g3
  have HE0 := cells_at HY0.out
  go_region_held3 (fun W => Hid (Below w.heap.size w W) ∧ ∀ i, W.cell? ⟨w.heap.size, i, none⟩ = (#[.int .i64 op, .int .i64 d, .int .i64 a, .int .i64 b, c4, c5, c6, .slice ao n cap, c8, .int .i64 to, .int .i64 el, c11, c12] : Array Value)[i]?)
    (first | exact ⟨HD0, HE0⟩ | exact ⟨HD1, cells_at HY1.out⟩ | exact ⟨HD2, cells_at HY2.out⟩ | exact ⟨HD3, cells_at HY3.out⟩ | exact ⟨HD4, cells_at HY4.out⟩ | exact ⟨HD5, cells_at HY5.out⟩ | exact ⟨HD6, cells_at HY6.out⟩ | exact ⟨HD7, cells_at HY7.out⟩ | exact ⟨HD8, cells_at HY8.out⟩ | exact ⟨HD9, cells_at HY9.out⟩)
    (first
    | (go_at_call 9; have tok := HD0; clear HD0; have tox := HY0; clear HY0; go_must (refine (C9.out _ tok.out).mono ?_); rintro e v0 ⟨u, rfl, HU, hb⟩; have HD1 := hid (after tok.out hb.out tok.out.size); have HY1 := hid (old_block hb.out (Array.getElem?_eq_some_iff.1 tox.out).1 tox.out); clear hb tok tox)
    | (go_at_call 10; have tok := HD1; clear HD1; have tox := HY1; clear HY1; go_must (refine (C10.out _ tok.out).mono ?_); rintro e v1 ⟨u2, rfl, HW, hb⟩; have HD2 := hid (after tok.out hb.out tok.out.size); have HY2 := hid (old_block hb.out (Array.getElem?_eq_some_iff.1 tox.out).1 tox.out); have HU := hid (HU.out.below hb.out); clear hb tok tox)
    | (go_at_call 8; have tok := HD2; clear HD2; have tox := HY2; clear HY2; go_must (refine (numbers_t _ _ _ _ HU.out HW.out HL.out.1).mono ?_); rintro e v2 ⟨rfl, hb⟩; have HD3 := hid (after tok.out hb.out tok.out.size); have HY3 := hid (old_block hb.out (Array.getElem?_eq_some_iff.1 tox.out).1 tox.out); clear hb tok tox)
    | (go_at_call 11; have tok := HD3; clear HD3; have tox := HY3; clear HY3; go_must (refine (C11.out _).mono ?_); rintro e v3 ⟨u3, rfl, HN, hb⟩; have HD4 := hid (after tok.out hb.out tok.out.size); have HY4 := hid (old_block hb.out (Array.getElem?_eq_some_iff.1 tox.out).1 tox.out); clear hb tok tox)
    | (go_at_call 12; have tok := HD4; clear HD4; have tox := HY4; clear HY4; go_must (refine (C12.out _).mono ?_); rintro e v4 ⟨u4, rfl, HM, hb⟩; have HD5 := hid (after tok.out hb.out tok.out.size); have HY5 := hid (old_block hb.out (Array.getElem?_eq_some_iff.1 tox.out).1 tox.out); have HN := hid (HN.out.below hb.out); clear hb tok tox)
    | (go_at_call 8; have tok := HD5; clear HD5; have tox := HY5; clear HY5; go_must (refine (numbers_t _ _ _ _ HN.out HM.out HL.out.2).mono ?_); rintro e v5 ⟨rfl, hb⟩; have HD6 := hid (after tok.out hb.out tok.out.size); have HY6 := hid (old_block hb.out (Array.getElem?_eq_some_iff.1 tox.out).1 tox.out); clear hb tok tox)
    | (go_at_call 13; have tok := HD6; clear HD6; have tox := HY6; clear HY6; go_must (refine (C13.out _).mono ?_); rintro e v6 ⟨rfl, hb⟩; have HD7 := hid (after tok.out hb.out tok.out.size); have HY7 := hid (old_block hb.out (Array.getElem?_eq_some_iff.1 tox.out).1 tox.out); clear hb tok tox)
    | (go_at_call 14; have tok := HD7; clear HD7; have tox := HY7; clear HY7; go_must (refine (C14.out _).mono ?_); rintro e v7 ⟨rfl, hb⟩; have HD8 := hid (after tok.out hb.out tok.out.size); have HY8 := hid (old_block hb.out (Array.getElem?_eq_some_iff.1 tox.out).1 tox.out); clear hb tok tox)
    | (go_at_call 5; have tok := HD8; clear HD8; have tox := HY8; clear HY8; go_must (refine (alive_i _).mono ?_); rintro e v8 ⟨rfl, hb⟩; have HD9 := hid (after tok.out hb.out tok.out.size); have HY9 := hid (old_block hb.out (Array.getElem?_eq_some_iff.1 tox.out).1 tox.out); clear hb tok tox))
  go_wp2
  go_ret
  exact ⟨rfl, HD9⟩
theorem looks_i (op d a b to el p q : Int) (c4 c5 c6 args c8 c11 c12 : Value) (xs : List Int) (w : World) (hv : Came w args xs) :
    Calls Try.prog 3 #[ins op d a b c4 c5 c6 args c8 to el c11 c12, .int .i64 p, .int .i64 q] w fun e w' => e = .returned (.bool true) ∧ Hid (Below w.heap.size w w') := by
  obtain ⟨ao, cap, rfl⟩ := came_len hv
  by_cases h : ((xs.length : Nat) : Int) ≤ 40 ∧ 0 ≤ p ∧ p ≤ 10000
  · obtain ⟨h1, h2, h3⟩ := h
    have hl : xs.length ≤ 40 := by omega
    obtain ⟨s, hs⟩ := wordR_str q
    exact looks_core p q (wrD op d) (wrB op) (rds op a b xs) (nxt op p to el) s op d a b to el c4 c5 c6 c8 c11 c12 ao xs.length cap w (by omega) (by omega) (by omega)
      (fun W => writes_i _ _ _ _ _ _ _ _ _ _ _ _ _ W) (fun W => rwrites_i _ _ _ _ _ _ _ _ _ _ _ _ _ W)
      (fun W hb => reads_i _ _ _ _ _ _ _ _ _ _ _ _ _ xs W (hv.below hb) hl) (fun W hb => rreads_i _ _ _ _ _ _ _ _ _ _ _ _ _ xs W (hv.below hb) hl)
      (fun W => next_i _ _ _ _ _ _ _ _ _ _ _ _ _ _ W h2 h3) (fun W => rnext_i _ _ _ _ _ _ _ _ _ _ _ _ _ _ W h2 h3)
      (fun W => word_s hs W) (fun W => rword_s hs W) ⟨rds_len op a b hl, nxt_len op p to el⟩
  · exact looks_big _ _ _ _ _ _ _ _ _ _ _ _ _ _ _ _ _ _ h
end Go.Proofs.Ytplpjckkocccfaa
