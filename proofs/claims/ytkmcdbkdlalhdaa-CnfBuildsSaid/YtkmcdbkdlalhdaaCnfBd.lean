/- A builder that is tried: the loop. Conditions: at most 40 calls. -/
import Derived.Test.YtkmcdbkdlalhdaaCnfBe
import Derived.Deep.CutBlock
import Derived.Deep.DeepCutAuto
import Derived.Deep.RegionHeld3
namespace Go.Proofs.Ytkmcdbkdlalhdaa
open Go.RowKit Go.Maps Go.Lib Go.Sort
set_option linter.unusedVariables false
set_option linter.unusedSimpArgs false
/-- What holds at the head of a round. -/
def Rnd (w W : World) (g k i : Nat) : Prop := ∃ (N : Nat) (A : Option Addr) (n c : Nat) (A2 : Option Addr) (n2 c2 : Nat) (ls : List (List Int)), BS w W g k N A n c ls N A2 n2 c2 ls ∧ Short ls ∧ N ≤ i ∧ n ≤ 2 * i ∧ n2 ≤ 2 * i
/-- What holds behind the switch. -/
def Swt (w W : World) (g k i ko : Nat) (O : Array Value) : Prop := Rnd w W g k (i + 1) ∧ W.heap[ko]? = some (.cells O 42 (0, 0))
theorem putF_len (N : Int) (ls : List (List Int)) (xs : List Int) : (putF N ls xs).length ≤ ls.length + 1 := by
  unfold putF; split <;> simp
theorem short_app {ls : List (List Int)} {xs : List Int} (h : Short ls) (hx : xs.length ≤ 200000) : Short (ls ++ [xs]) := by
  intro k ys hy
  by_cases hk : k < ls.length
  · rw [List.getElem?_append_left hk] at hy; exact h k ys hy
  · rw [List.getElem?_append_right (by omega)] at hy
    exact short1 hx _ ys hy
theorem putF_short {N : Int} {ls : List (List Int)} {xs : List Int} (h : Short ls) (hx : xs.length ≤ 200000) : Short (putF N ls xs) := by
  unfold putF; split
  · exact short_app h hx
  · exact h
/-- What holds behind the switch, put together. -/
theorem swt_mk {w W : World} {g k i ko N n c n2 c2 : Nat} {A A2 : Option Addr} {ls : List (List Int)} {O : Array Value} (h : BS w W g k N A n c ls N A2 n2 c2 ls) (hs : Short ls) (hN : N ≤ i + 1) (hl : ls.length ≤ 2 * (i + 1)) (ho : W.heap[ko]? = some (.cells O 42 (0, 0))) : Swt w W g k i ko O :=
  ⟨⟨N, A, n, c, A2, n2, c2, ls, h, hs, hN, by have := h.bld.row.len; omega, by have := h.want.len; omega⟩, ho⟩
set_option maxRecDepth 100000 in
set_option maxHeartbeats 8000000 in
theorem builds_small (A : Option Addr) (n cap : Nat) (w : World) (h : ∀ i, i < n → OpAt w A i) (hn : n ≤ 40) :
    Calls Try.prog 4 #[.slice A n cap] w fun e w' => e = .returned (.bool true) ∧ Hid (Below w.heap.size w w') := by
  have H := hid h
  have hn' : ¬ 40 < (n : Int) := by omega
  clear h
  go_enter Try.func4, Try.ntmps4
  go_wp2_with (go_at_call 17; go_must (refine (new_i w).mono ?_); rintro e w1 ⟨rfl, HB, HW⟩)
  have HR0 : Hid (Rnd w (w1.alloc (.cells #[.int .i64 0, .slice none 0 0] 24)) w.heap.size w1.heap.size 0) := hid (by
    have b1 := below1 w1 (.cells #[.int .i64 0, .slice none 0 0] 24)
    refine ⟨0, none, 0, 0, none, 0, 0, [], ⟨after HW.out b1 HW.out.size, HB.out.below b1, heap_alloc_new _ _, (Array.getElem?_eq_some_iff.1 HB.out.box).1, ListsP.nil _ _⟩, fun k xs hx => by simp at hx, by omega, by omega, by omega⟩)
  clear HB
  have hs1 : w.heap.size ≤ w1.heap.size := HW.out.size
  go_loopg [6] n (fun gk v6 wr => ∃ i : Nat, i ≤ n ∧ gk = n - i ∧ v6 = .int .i64 i ∧ Hid (Rnd w wr w.heap.size w1.heap.size i))
  case atStart => exact ⟨0, by omega, rfl, rfl, HR0⟩
  case round =>
    obtain ⟨i, hi, rfl, rfl, HR⟩ := hrel
    obtain ⟨W0, rfl⟩ : ∃ W0, W0 = wr := ⟨_, rfl⟩
    clear HR0
    by_cases hlt : i < n
    · have hlt' : (i : Int) < (n : Int) := by omega
      obtain ⟨b, off, kd, x, y, A3, l3, c3, A4, l4, c4, xs, ys, rfl, hb, hc0, hc1, hc2, hc3, hc4, hia, hib⟩ := H.out i hlt
      have HBel : Hid (Below w.heap.size w W0) := hid (by obtain ⟨N, A, n, c, A2, n2, c2, ls, h, -⟩ := HR.out; exact h.below)
      have HIA := hid hia
      have HIB := hid hib
      rw [← HBel.out.cell hb] at hc0 hc1 hc2 hc3 hc4
      clear hia hib
      have HO := hid (heap_alloc_new W0 (.cells #[.int .i64 kd, .int .i64 x, .int .i64 y, .slice A3 l3 c3, .slice A4 l4 c4] 42))
      have HOB := hid (below1 W0 (.cells #[.int .i64 kd, .int .i64 x, .int .i64 y, .slice A3 l3 c3, .slice A4 l4 c4] 42))
      go_upto_region 10 with fail
      generalize (W0.alloc (.cells #[.int .i64 kd, .int .i64 x, .int .i64 y, .slice A3 l3 c3, .slice A4 l4 c4] 42)) = W1 at *
      have HBnd : Hid (w1.heap.size < W0.heap.size) := hid (by obtain ⟨N, A, n, c, A2, n2, c2, ls, h, -⟩ := HR.out; exact (Array.getElem?_eq_some_iff.1 h.box).1)
      have HR1 : Hid (Rnd w W1 w.heap.size w1.heap.size i) := hid (by obtain ⟨N, A, n, c, A2, n2, c2, ls, h, h2⟩ := HR.out; exact ⟨N, A, n, c, A2, n2, c2, ls, h.later HOB.out, h2⟩)
      have HW1 := hid (after HBel.out HOB.out HBel.out.size)
      have HL1 := hid (clause_i xs A3 l3 c3 _ W1 (HIA.out.later HW1.out).ints)
      have HL2 := hid (clause_i ys A4 l4 c4 _ W1 (HIB.out.later HW1.out).ints)
      have ho := cells_at HO.out
      clear HR HBel HOB hc0 hc1 hc2 hc3 hc4
      have F1 : True := trivial
      cases e1 : light xs
      case false =>
        rw [e1] at HL1
        go_wp2_with (first
          | (go_at_call 18; have hh := F1; clear F1; go_must (refine HL1.out.mono ?_); rintro e w2 ⟨rfl, hw2⟩; obtain rfl := hw2.symm; clear hw2)
          | (go_at_call 18; go_must (refine HL2.out.mono ?_); rintro e w3 ⟨rfl, hw3⟩; obtain rfl := hw3.symm; clear hw3)
          | (go_at_call 8; refine (alive_i _).mono ?_; rintro e w9 ⟨rfl, HB9⟩))
        go_ret
        exact ⟨rfl, hid (after HW1.out HB9.out HW1.out.size)⟩
      case true =>
        rw [e1] at HL1
        cases e2 : light ys
        case false =>
          rw [e2] at HL2
          go_wp2_with (first
            | (go_at_call 18; have hh := F1; clear F1; go_must (refine HL1.out.mono ?_); rintro e w2 ⟨rfl, hw2⟩; obtain rfl := hw2.symm; clear hw2)
            | (go_at_call 18; go_must (refine HL2.out.mono ?_); rintro e w3 ⟨rfl, hw3⟩; obtain rfl := hw3.symm; clear hw3)
            | (go_at_call 8; refine (alive_i _).mono ?_; rintro e w9 ⟨rfl, HB9⟩))
          go_ret
          exact ⟨rfl, hid (after HW1.out HB9.out HW1.out.size)⟩
        case true =>
          rw [e2] at HL2
          have HE1 := hid e1
          have HE2 := hid e2
          clear e1 e2
          by_cases h1 : x < -1000000
          · go_wp2_with (first
              | (go_at_call 18; have hh := F1; clear F1; go_must (refine HL1.out.mono ?_); rintro e w2 ⟨rfl, hw2⟩; obtain rfl := hw2.symm; clear hw2)
              | (go_at_call 18; go_must (refine HL2.out.mono ?_); rintro e w3 ⟨rfl, hw3⟩; obtain rfl := hw3.symm; clear hw3)
              | (go_at_call 8; refine (alive_i _).mono ?_; rintro e w9 ⟨rfl, HB9⟩))
            go_ret
            exact ⟨rfl, hid (after HW1.out HB9.out HW1.out.size)⟩
          by_cases h2 : 1000000 < x
          · go_wp2_with (first
              | (go_at_call 18; have hh := F1; clear F1; go_must (refine HL1.out.mono ?_); rintro e w2 ⟨rfl, hw2⟩; obtain rfl := hw2.symm; clear hw2)
              | (go_at_call 18; go_must (refine HL2.out.mono ?_); rintro e w3 ⟨rfl, hw3⟩; obtain rfl := hw3.symm; clear hw3)
              | (go_at_call 8; refine (alive_i _).mono ?_; rintro e w9 ⟨rfl, HB9⟩))
            go_ret
            exact ⟨rfl, hid (after HW1.out HB9.out HW1.out.size)⟩
          by_cases h3 : y < -1000000
          · go_wp2_with (first
              | (go_at_call 18; have hh := F1; clear F1; go_must (refine HL1.out.mono ?_); rintro e w2 ⟨rfl, hw2⟩; obtain rfl := hw2.symm; clear hw2)
              | (go_at_call 18; go_must (refine HL2.out.mono ?_); rintro e w3 ⟨rfl, hw3⟩; obtain rfl := hw3.symm; clear hw3)
              | (go_at_call 8; refine (alive_i _).mono ?_; rintro e w9 ⟨rfl, HB9⟩))
            go_ret
            exact ⟨rfl, hid (after HW1.out HB9.out HW1.out.size)⟩
          by_cases h4 : 1000000 < y
          · go_wp2_with (first
              | (go_at_call 18; have hh := F1; clear F1; go_must (refine HL1.out.mono ?_); rintro e w2 ⟨rfl, hw2⟩; obtain rfl := hw2.symm; clear hw2)
              | (go_at_call 18; go_must (refine HL2.out.mono ?_); rintro e w3 ⟨rfl, hw3⟩; obtain rfl := hw3.symm; clear hw3)
              | (go_at_call 8; refine (alive_i _).mono ?_; rintro e w9 ⟨rfl, HB9⟩))
            go_ret
            exact ⟨rfl, hid (after HW1.out HB9.out HW1.out.size)⟩
          go_upto_block 2 with (first
            | (go_at_call 18; have hh := F1; clear F1; go_must (refine HL1.out.mono ?_); rintro e w2 ⟨rfl, hw2⟩; obtain rfl := hw2.symm; clear hw2)
            | (go_at_call 18; go_must (refine HL2.out.mono ?_); rintro e w3 ⟨rfl, hw3⟩; obtain rfl := hw3.symm; clear hw3))
          clear HL1 HL2
          go_cut [] (fun wc => Hid (Swt w wc w.heap.size w1.heap.size i W0.heap.size #[.int .i64 kd, .int .i64 x, .int .i64 y, .slice A3 l3 c3, .slice A4 l4 c4]))
          case first =>
            obtain ⟨N, A, m, c, A2, n2, c2, ls, hS, hsh, hN, hm, hm2⟩ := HR1.out
            have HS := hid hS
            have HSh := hid hsh
            have hkg : W0.heap.size ≠ w.heap.size := by have := (Array.getElem?_eq_some_iff.1 hS.bld.box).1; have := HBnd.out; omega
            have hkk : W0.heap.size ≠ w1.heap.size := by have := HBnd.out; omega
            have hgk0 := hS.gk
            have hx := cells_at hS.box
            have hfx := frozen_no hS.box
            have hlen1 := hid hS.bld.row.len
            have hl3 : l3 ≤ 60 := by have := light_len HE1.out; have := (HIA.out.ints).len; omega
            have hl4 : l4 ≤ 60 := by have := light_len HE2.out; have := (HIB.out.ints).len; omega
            have hx60 : xs.length ≤ 60 := light_len HE1.out
            have hN40 : (N : Int) ≤ 40 := by omega
            have hN0 : 0 ≤ (N : Int) := by omega
            have hgs : w.heap.size ≤ W1.heap.size := HW1.out.size
            clear hS hsh HR1
            by_cases k0 : kd = 0
            · subst k0
              obtain ⟨M, HM⟩ : ∃ M : Nat, Hid (N + 1 = M) := ⟨_, hid rfl⟩
              have hw : IntKind.i64.wrap ((N : Int) + 1) = M := by rw [IntKind.wrap_i64]; have := HM.out; omega
              have HS2 := hid (HS.out.setN (M' := M))
              have HO2 := hid ((BS.setN_oth HS.out hkk HO.out (M' := M)))
              have HS3 := hid (HS2.out.later (below_drew1 _))
              have HO3 := hid (old_block (below_drew1 _) (Array.getElem?_eq_some_iff.1 HO2.out).1 HO2.out)
              have hx2 := cells_at HS2.out.box
              go_wp2
              go_region_held3 (fun W => ∀ i, W.cell? ⟨w1.heap.size, i, none⟩ = (#[.int .i64 M, .slice A2 n2 c2] : Array Value)[i]?)
                (first | exact cells_at HS3.out.box | exact cells_at HS4.out.box)
                (first
                  | (go_at_call 19; go_must (refine (var_i w.heap.size w.heap.size m c N A ls _ HS3.out.bld (by omega)).mono ?_); rintro e v1 ⟨rfl, hb, hk⟩; rw [HM.out] at hb ⊢; have HS4 := hid (HS3.out.bstep hb.out hk.out (.inl rfl)); have HO4 := hid (HS3.out.oth hk.out hkg (by decide) HO3.out); clear hb hk HS3 HO3))
              go_wp2_with fail
              go_meet
              exact hid (swt_mk HS4.out HSh.out (by have := HM.out; omega) (by have := hlen1.out; omega) HO4.out)
            · by_cases k1 : kd = 1
              · subst k1
                have HC1 := hid (bclause_i w.heap.size w.heap.size m c l3 c3 W1.heap.size N A A3 ls xs W1 HS.out.bld hgs (HIA.out.later HW1.out).ints (Nat.le_refl _) hN0 (by omega) (by omega) (by omega))
                go_wp2_with (first
                  | (go_at_call 20; go_must (refine HC1.out.mono ?_); rintro e v1 ⟨rfl, A', m', c', hb, hk, hA⟩
                     have HS1 := hid (HS.out.bstep hb.out hk.out hA.out)
                     have HO1 := hid (HS.out.oth hk.out hkg (by decide) HO.out)
                     have hx1 := cells_at HS1.out.box
                     have ho1 := cells_at HO1.out
                     have HPut := hid (putp_i N ls xs _ A2 A3 n2 c2 l3 c3 v1 HS1.out.want (HS1.out.arg HIA.out) ⟨hN0, by omega⟩ (by omega) (by omega))
                     clear hb hk hA)
                  | (go_at_call 21; go_must (refine HPut.out.mono ?_); rintro e v2 ⟨A6, n6, c6, rfl, hn6, hL, hb⟩
                     have HS2 := hid (HS1.out.later hb.out)
                     have hx2 := cells_at HS2.out.box
                     have hf2 := frozen_no HS2.out.box
                     have HP := hid (HS1.out.put (M' := N) (c6 := c6) hL.out hb.out)
                     have HO2 := hid (put2_other (.int .i64 N) (.slice A6 n6 c6) (Ne.symm hkk) (old_block hb.out (Array.getElem?_eq_some_iff.1 HO1.out).1 HO1.out))
                     clear hL hb))
                go_meet
                exact hid (swt_mk HP.out (putF_short HSh.out (by omega)) (by omega) (by have := putF_len N ls xs; have := hlen1.out; omega) HO2.out)
              · by_cases k2 : kd = 2
                · subst k2
                  have HC1 := hid (imply_i w.heap.size w.heap.size m c l3 c3 l4 c4 W1.heap.size N A A3 A4 ls xs ys W1 HS.out.bld hgs (HIA.out.later HW1.out).ints (HIB.out.later HW1.out).ints (Nat.le_refl _) hN0 (by omega) (by omega) (by omega) (by omega))
                  go_wp2_with (first
                    | (go_at_call 22; go_must (refine HC1.out.mono ?_); rintro e v1 ⟨rfl, A', m', c', hb, hk, hA⟩
                       have HS1 := hid (HS.out.bstep hb.out hk.out hA.out)
                       have HO1 := hid (HS.out.oth hk.out hkg (by decide) HO.out)
                       clear hb hk hA))
                  have hv1 : w.heap.size ≤ v1.heap.size := HS1.out.below.size
                  clear HC1 HS HO hx hfx ho
                  go_loopg [8, 9] l3 (fun gk v8 v9 wr => ∃ j : Nat, j ≤ l3 ∧ gk = l3 - j ∧ v9 = .int .i64 j ∧ ∃ A5 c5, v8 = .slice A5 j c5 ∧ Hid (Own wr v1.heap.size A5 j c5 (neg (xs.take j))) ∧ Hid (Below v1.heap.size v1 wr))
                  case atStart => exact ⟨0, by omega, rfl, rfl, _, _, rfl, hid (Own.nil _ _), hid (Below.refl _ _)⟩
                  case round =>
                    obtain ⟨j, hj, rfl, rfl, A5, c5, rfl, HOw, HBw⟩ := hrel
                    obtain ⟨V, rfl⟩ : ∃ V, V = wr := ⟨_, rfl⟩
                    have HSV := hid (HS1.out.later HBw.out)
                    have HOV := hid (old_block HBw.out (Array.getElem?_eq_some_iff.1 HO1.out).1 HO1.out)
                    have ho := cells_at HOV.out
                    by_cases hjl : j < l3
                    · have hjl' : (j : Int) < (l3 : Int) := by omega
                      obtain ⟨b3, off3, q, rfl, hb3, hq, hc3⟩ := ((HIA.out.later HSV.out.below).ints).at_ hjl
                      have HQ := hid hq
                      have hwq := light_at HE1.out hq
                      clear hq
                      go_wp2_with (at_builtin; go_must (refine wpList_append_ints rfl _ _ rfl v1.heap.size j c5 1 1 _ A5 _ (neg (xs.take j)) [-q] rfl rfl (HOw.out.below (below1 _ _)) (ints_new _ [-q] _ rfl) (Nat.le_trans HBw.out.size (by simp)) (by omega) ?_); intro A6 c6 w3 hown hbel hgrow; have HO3 := hid hown; have HB3 := hid ((HBw.out.alloc HBw.out.size _).trans hbel); clear hown hbel hgrow)
                      go_roundg (l3 - (j + 1))
                      case measure => omega
                      case rel => exact ⟨j + 1, by omega, rfl, rfl, _, _, rfl, hid (by rw [← neg_push HQ.out]; exact HO3.out), HB3⟩
                    · have hjl' : ¬ (j : Int) < (l3 : Int) := by omega
                      obtain rfl : j = l3 := by omega
                      have HO2 : Hid (Own V.drew v1.heap.size A5 j c5 (neg xs)) := hid (by have := HOw.out; rw [List.take_of_length_le (by have := (HIA.out.ints).len; omega)] at this; exact this.below (below_drew1 _))
                      have HBd := hid (HBw.out.trans (below_drew1' _ V))
                      have HYd := hid (HIB.out.later (HSV.out.later (below_drew1 V)).below).ints
                      have HOd := hid (old_block (below_drew1 V) (Array.getElem?_eq_some_iff.1 HOV.out).1 HOV.out)
                      have hxd := cells_at HSV.out.box
                      have T1 : True := trivial
                      go_wp2
                      have hod := cells_at HOd.out
                      go_region_law (first
                          | (go_simp; go_at_call 21; go_must (refine HPut.out.mono ?_); rintro e v4 ⟨A7, n7, c7, rfl, hn7, hL, hb⟩
                             have HB4 := hid (HB3.out.trans (hb.out.mono HB3.out.size))
                             have HS4 := hid (HS1.out.later HB4.out)
                             have HOe := hid (old_block HB4.out (Array.getElem?_eq_some_iff.1 HO1.out).1 HO1.out)
                             have hx4 := cells_at HS4.out.box
                             have hf4 := frozen_no HS4.out.box
                             have HP := hid (HS1.out.put (M' := N) (c6 := c7) hL.out HB4.out)
                             have HOf := hid (put2_other (.int .i64 N) (.slice A7 n7 c7) (Ne.symm hkk) HOe.out)
                             clear hL hb)
                          | (have hh := T1
                             refine step_append_ints rfl (.tmp 105) (.tmp 107) rfl v1.heap.size j c5 l4 c4 _ A5 A4 (neg xs) ys rfl rfl HO2.out HYd.out HBd.out.size (by omega) ?_
                             intro A6 c6 w3 hown hbel hgrow
                             have HO3 := hid hown
                             have HB3 := hid (HBd.out.trans hbel)
                             have HS3 := hid (HS1.out.later HB3.out)
                             have HOc := hid (old_block HB3.out (Array.getElem?_eq_some_iff.1 HO1.out).1 HO1.out)
                             have hx3 := cells_at HS3.out.box
                             have HPut := hid (putp_new N ls (neg xs ++ ys) (fun b => Apart w.heap.size w1.heap.size A' b ∨ v1.heap.size ≤ b) v1.heap.size A2 A6 n2 c2 (j + l4) c6 w3 (HS3.out.want.imp fun b _ h => .inl h) (own_intsP hown fun b h => .inr h) ⟨hN0, by omega⟩ (by omega) (by omega) HB3.out.size (fun b h => .inr h))
                             clear hown hbel hgrow T1))
                      all_goals
                        go_wp2_with fail
                        go_meet
                        exact hid (swt_mk HP.out (putF_short HSh.out (by have := (HIA.out.ints).len; have := (HIB.out.ints).len; simp [neg]; omega)) (by omega) (by have := putF_len N ls (neg xs ++ ys); have := hlen1.out; omega) HOf.out)
                · by_cases k3 : kd = 3
                  · subst k3
                    have HC1 := hid (bsame_i w.heap.size w.heap.size m c N x y A ls W1 HS.out.bld hgs hN0 (by omega) (by omega))
                    rw [← sameF_put] at HC1
                    go_wp2_with (first
                      | (go_at_call 23; go_must (refine HC1.out.mono ?_); rintro e v1 ⟨rfl, A', m', c', hb, hk, hA⟩
                         have HS1 := hid (HS.out.bstep hb.out hk.out hA.out)
                         have HO1 := hid (HS.out.oth hk.out hkg (by decide) HO.out)
                         clear hb hk hA))
                    have HBd := hid (below_drew1 v1)
                    have HSd := hid (HS1.out.later (below_drew1 v1))
                    have HOd := hid (old_block (below_drew1 v1) (Array.getElem?_eq_some_iff.1 HO1.out).1 HO1.out)
                    have HBz := hid (Below.refl v1.heap.size v1)
                    have hv1 : w.heap.size ≤ v1.heap.size := HS1.out.below.size
                    have hxd := cells_at HS1.out.box
                    have hxe := fun o => cells_at (HS1.out.later (below1 v1 o)).box
                    have hxf := fun o p => cells_at (HS1.out.later (below2 v1 o p)).box
                    have hwx : IntKind.i64.wrap (-x) = -x := by rw [IntKind.wrap_i64]; omega
                    have hwy : IntKind.i64.wrap (-y) = -y := by rw [IntKind.wrap_i64]; omega
                    have HV1 : Hid (Below v1.heap.size v1 ((v1.alloc (.cells #[.int .i64 (-x), .int .i64 y] 3)).drew)) := hid ((below1 v1 (.cells #[.int .i64 (-x), .int .i64 y] 3)).trans (below_drew1' _ _))
                    have HI1 : Hid (((v1.alloc (.cells #[.int .i64 (-x), .int .i64 y] 3)).drew).heap[v1.heap.size]? = some (.cells #[.int .i64 (-x), .int .i64 y] 3 (0, 0))) := hid (heap_alloc_new v1 (.cells #[.int .i64 (-x), .int .i64 y] 3))
                    have HK1 : Hid (Calls Try.prog 21 #[.agg #[.int .i64 N, .slice A2 n2 c2], .slice (some ⟨v1.heap.size, 0, none⟩) 2 2] ((v1.alloc (.cells #[.int .i64 (-x), .int .i64 y] 3)).drew) (PutNew ((v1.alloc (.cells #[.int .i64 (-x), .int .i64 y] 3)).drew) (fun b => Apart w.heap.size w1.heap.size A' b ∨ v1.heap.size ≤ b) N (putF N ls [-x, y]) n2)) := hid (putp_new N ls [-x, y] (fun b => Apart w.heap.size w1.heap.size A' b ∨ v1.heap.size ≤ b) v1.heap.size A2 (some ⟨v1.heap.size, 0, none⟩) n2 c2 2 2 ((v1.alloc (.cells #[.int .i64 (-x), .int .i64 y] 3)).drew) ((HS1.out.later HV1.out).want.imp fun b _ h => .inl h) (two_intsP HI1.out (.inr (by omega))) ⟨hN0, by omega⟩ (by omega) (by omega) HV1.out.size (fun b h => .inr h))
                    have HV2 : Hid (Below v1.heap.size v1 (((v1.alloc (.cells #[.int .i64 (-x), .int .i64 y] 3)).alloc (.cells #[.int .i64 x, .int .i64 (-y)] 3)).drew)) := hid ((below2 v1 (.cells #[.int .i64 (-x), .int .i64 y] 3) (.cells #[.int .i64 x, .int .i64 (-y)] 3)).trans (below_drew1' _ _))
                    have HI2 : Hid ((((v1.alloc (.cells #[.int .i64 (-x), .int .i64 y] 3)).alloc (.cells #[.int .i64 x, .int .i64 (-y)] 3)).drew).heap[v1.heap.size]? = some (.cells #[.int .i64 (-x), .int .i64 y] 3 (0, 0))) := hid (two_first v1 (.cells #[.int .i64 (-x), .int .i64 y] 3) (.cells #[.int .i64 x, .int .i64 (-y)] 3))
                    have HK2 : Hid (Calls Try.prog 21 #[.agg #[.int .i64 N, .slice A2 n2 c2], .slice (some ⟨v1.heap.size, 0, none⟩) 2 2] (((v1.alloc (.cells #[.int .i64 (-x), .int .i64 y] 3)).alloc (.cells #[.int .i64 x, .int .i64 (-y)] 3)).drew) (PutNew (((v1.alloc (.cells #[.int .i64 (-x), .int .i64 y] 3)).alloc (.cells #[.int .i64 x, .int .i64 (-y)] 3)).drew) (fun b => Apart w.heap.size w1.heap.size A' b ∨ v1.heap.size ≤ b) N (putF N ls [-x, y]) n2)) := hid (putp_new N ls [-x, y] (fun b => Apart w.heap.size w1.heap.size A' b ∨ v1.heap.size ≤ b) v1.heap.size A2 (some ⟨v1.heap.size, 0, none⟩) n2 c2 2 2 (((v1.alloc (.cells #[.int .i64 (-x), .int .i64 y] 3)).alloc (.cells #[.int .i64 x, .int .i64 (-y)] 3)).drew) ((HS1.out.later HV2.out).want.imp fun b _ h => .inl h) (two_intsP HI2.out (.inr (by omega))) ⟨hN0, by omega⟩ (by omega) (by omega) HV2.out.size (fun b h => .inr h))
                    have HV3 : Hid (Below v1.heap.size v1 (((v1.alloc (.cells #[.int .i64 x, .int .i64 (-y)] 3)).alloc (.cells #[.int .i64 (-x), .int .i64 y] 3)).drew)) := hid ((below2 v1 (.cells #[.int .i64 x, .int .i64 (-y)] 3) (.cells #[.int .i64 (-x), .int .i64 y] 3)).trans (below_drew1' _ _))
                    have HI3 : Hid ((((v1.alloc (.cells #[.int .i64 x, .int .i64 (-y)] 3)).alloc (.cells #[.int .i64 (-x), .int .i64 y] 3)).drew).heap[v1.heap.size + 1]? = some (.cells #[.int .i64 (-x), .int .i64 y] 3 (0, 0))) := hid (two_second v1 (.cells #[.int .i64 x, .int .i64 (-y)] 3) (.cells #[.int .i64 (-x), .int .i64 y] 3))
                    have HK3 : Hid (Calls Try.prog 21 #[.agg #[.int .i64 N, .slice A2 n2 c2], .slice (some ⟨v1.heap.size + 1, 0, none⟩) 2 2] (((v1.alloc (.cells #[.int .i64 x, .int .i64 (-y)] 3)).alloc (.cells #[.int .i64 (-x), .int .i64 y] 3)).drew) (PutNew (((v1.alloc (.cells #[.int .i64 x, .int .i64 (-y)] 3)).alloc (.cells #[.int .i64 (-x), .int .i64 y] 3)).drew) (fun b => Apart w.heap.size w1.heap.size A' b ∨ v1.heap.size ≤ b) N (putF N ls [-x, y]) n2)) := hid (putp_new N ls [-x, y] (fun b => Apart w.heap.size w1.heap.size A' b ∨ v1.heap.size ≤ b) v1.heap.size A2 (some ⟨v1.heap.size + 1, 0, none⟩) n2 c2 2 2 (((v1.alloc (.cells #[.int .i64 x, .int .i64 (-y)] 3)).alloc (.cells #[.int .i64 (-x), .int .i64 y] 3)).drew) ((HS1.out.later HV3.out).want.imp fun b _ h => .inl h) (two_intsP HI3.out (.inr (by omega))) ⟨hN0, by omega⟩ (by omega) (by omega) HV3.out.size (fun b h => .inr h))
                    have HC2 : Hid ((((v1.alloc (.cells #[.int .i64 (-x), .int .i64 y] 3)).alloc (.cells #[.int .i64 x, .int .i64 (-y)] 3)).drew).heap[v1.heap.size + 1]? = some (.cells #[.int .i64 x, .int .i64 (-y)] 3 (0, 0))) := hid (two_second v1 (.cells #[.int .i64 (-x), .int .i64 y] 3) (.cells #[.int .i64 x, .int .i64 (-y)] 3))
                    have HC3 : Hid ((((v1.alloc (.cells #[.int .i64 x, .int .i64 (-y)] 3)).alloc (.cells #[.int .i64 (-x), .int .i64 y] 3)).drew).heap[v1.heap.size]? = some (.cells #[.int .i64 x, .int .i64 (-y)] 3 (0, 0))) := hid (two_first v1 (.cells #[.int .i64 x, .int .i64 (-y)] 3) (.cells #[.int .i64 (-x), .int .i64 y] 3))
                    have T1 : True := trivial
                    clear HC1 HS HO hx hfx ho
                    refine wp_region_noPanic ?_
                    refine wp_region_held_drew (S := fun W => ∀ i, W.cell? ⟨W0.heap.size, i, none⟩ = (#[.int .i64 3, .int .i64 x, .int .i64 y, .slice A3 l3 c3, .slice A4 l4 c4] : Array Value)[i]?) (by kernel_rfl) (cells_at HOd.out) (fun hHeld => ?_)
                    refine wpAnyH_take (i := 1) (oi := { dst := some 119, op := Op.fieldAddr 42 (Operand.tmp 7) 1, type := 0, pos := "law.go:127", after := #[], guard := none }) (v := ?_) rfl (by kernel_rfl) (by kernel_rfl) (by kernel_rfl) (fun _ _ _ h => h) (Or.inl ⟨by rfl, ?_⟩) (by assumption) ?_
                    rotate_left
                    · intro w5 hSw
                      try dsimp only at hSw
                      go_simp
                      try with_reducible rfl
                    try simp only [Act.put, List.setIfInBounds_toArray, List.set_cons_zero, List.set_cons_succ]
                    refine wpAnyH_take (i := 2) (oi := { dst := some 120, op := Op.load 3 (Operand.tmp 119), type := 3, pos := "law.go:127", after := #[{ on := 1, ground := Ground.data }], guard := none }) (v := ?_) rfl (by kernel_rfl) (by kernel_rfl) (by kernel_rfl) (fun _ _ _ h => h) (Or.inl ⟨by rfl, ?_⟩) (by assumption) ?_
                    rotate_left
                    · intro w5 hSw
                      try dsimp only at hSw
                      go_simp
                      try with_reducible rfl
                    try simp only [Act.put, List.setIfInBounds_toArray, List.set_cons_zero, List.set_cons_succ]
                    refine wpAnyH_take (i := 3) (oi := { dst := some 121, op := Op.unOp UnOp.neg 3 (Operand.tmp 120), type := 3, pos := "law.go:127", after := #[{ on := 2, ground := Ground.data }], guard := none }) (v := ?_) rfl (by kernel_rfl) (by kernel_rfl) (by kernel_rfl) (fun _ _ _ h => h) (Or.inl ⟨by rfl, ?_⟩) (by assumption) ?_
                    rotate_left
                    · intro w5 hSw
                      try dsimp only at hSw
                      go_simp
                      try with_reducible rfl
                    try simp only [Act.put, List.setIfInBounds_toArray, List.set_cons_zero, List.set_cons_succ]
                    refine wpAnyH_take (i := 4) (oi := { dst := some 122, op := Op.fieldAddr 42 (Operand.tmp 7) 2, type := 0, pos := "law.go:127", after := #[], guard := none }) (v := ?_) rfl (by kernel_rfl) (by kernel_rfl) (by kernel_rfl) (fun _ _ _ h => h) (Or.inl ⟨by rfl, ?_⟩) (by assumption) ?_
                    rotate_left
                    · intro w5 hSw
                      try dsimp only at hSw
                      go_simp
                      try with_reducible rfl
                    try simp only [Act.put, List.setIfInBounds_toArray, List.set_cons_zero, List.set_cons_succ]
                    refine wpAnyH_take (i := 5) (oi := { dst := some 123, op := Op.load 3 (Operand.tmp 122), type := 3, pos := "law.go:127", after := #[{ on := 4, ground := Ground.data }], guard := none }) (v := ?_) rfl (by kernel_rfl) (by kernel_rfl) (by kernel_rfl) (fun _ _ _ h => h) (Or.inl ⟨by rfl, ?_⟩) (by assumption) ?_
                    rotate_left
                    · intro w5 hSw
                      try dsimp only at hSw
                      go_simp
                      try with_reducible rfl
                    try simp only [Act.put, List.setIfInBounds_toArray, List.set_cons_zero, List.set_cons_succ]
                    refine wpAnyH_take (i := 8) (oi := { dst := some 126, op := Op.fieldAddr 42 (Operand.tmp 7) 1, type := 0, pos := "law.go:127", after := #[], guard := none }) (v := ?_) rfl (by kernel_rfl) (by kernel_rfl) (by kernel_rfl) (fun _ _ _ h => h) (Or.inl ⟨by rfl, ?_⟩) (by assumption) ?_
                    rotate_left
                    · intro w5 hSw
                      try dsimp only at hSw
                      go_simp
                      try with_reducible rfl
                    try simp only [Act.put, List.setIfInBounds_toArray, List.set_cons_zero, List.set_cons_succ]
                    refine wpAnyH_take (i := 9) (oi := { dst := some 127, op := Op.load 3 (Operand.tmp 126), type := 3, pos := "law.go:127", after := #[{ on := 8, ground := Ground.data }], guard := none }) (v := ?_) rfl (by kernel_rfl) (by kernel_rfl) (by kernel_rfl) (fun _ _ _ h => h) (Or.inl ⟨by rfl, ?_⟩) (by assumption) ?_
                    rotate_left
                    · intro w5 hSw
                      try dsimp only at hSw
                      go_simp
                      try with_reducible rfl
                    try simp only [Act.put, List.setIfInBounds_toArray, List.set_cons_zero, List.set_cons_succ]
                    refine wpAnyH_take (i := 10) (oi := { dst := some 128, op := Op.fieldAddr 42 (Operand.tmp 7) 2, type := 0, pos := "law.go:127", after := #[], guard := none }) (v := ?_) rfl (by kernel_rfl) (by kernel_rfl) (by kernel_rfl) (fun _ _ _ h => h) (Or.inl ⟨by rfl, ?_⟩) (by assumption) ?_
                    rotate_left
                    · intro w5 hSw
                      try dsimp only at hSw
                      go_simp
                      try with_reducible rfl
                    try simp only [Act.put, List.setIfInBounds_toArray, List.set_cons_zero, List.set_cons_succ]
                    refine wpAnyH_take (i := 11) (oi := { dst := some 129, op := Op.load 3 (Operand.tmp 128), type := 3, pos := "law.go:127", after := #[{ on := 10, ground := Ground.data }], guard := none }) (v := ?_) rfl (by kernel_rfl) (by kernel_rfl) (by kernel_rfl) (fun _ _ _ h => h) (Or.inl ⟨by rfl, ?_⟩) (by assumption) ?_
                    rotate_left
                    · intro w5 hSw
                      try dsimp only at hSw
                      go_simp
                      try with_reducible rfl
                    try simp only [Act.put, List.setIfInBounds_toArray, List.set_cons_zero, List.set_cons_succ]
                    refine wpAnyH_take (i := 12) (oi := { dst := some 130, op := Op.unOp UnOp.neg 3 (Operand.tmp 129), type := 3, pos := "law.go:127", after := #[{ on := 11, ground := Ground.data }], guard := none }) (v := ?_) rfl (by kernel_rfl) (by kernel_rfl) (by kernel_rfl) (fun _ _ _ h => h) (Or.inl ⟨by rfl, ?_⟩) (by assumption) ?_
                    rotate_left
                    · intro w5 hSw
                      try dsimp only at hSw
                      go_simp
                      try with_reducible rfl
                    try simp only [Act.put, List.setIfInBounds_toArray, List.set_cons_zero, List.set_cons_succ]
                    refine wpAnyH_ready (rs := [0, 6, 13]) (by kernel_rfl) (by simp) ?_
                    refine AllReadyH.cons (o := { dst := some 118, op := Op.load 24 (Operand.tmp 5), type := 24, pos := "law.go:127", after := #[], guard := none }) rfl (fun K hK => ?_) ?_
                    · go_simp
                      refine hK.out _ _ ?_ (fun hHeld => ?_)
                      · first | exact cells_at HOf.out | exact cells_at HOe.out | exact cells_at HOc.out | exact cells_at (old_block (below1 _ _) (Array.getElem?_eq_some_iff.1 HOc.out).1 HOc.out) | exact cells_at HOd.out | exact cells_at (old_block (bal HBd.out) (Array.getElem?_eq_some_iff.1 HO1.out).1 HO1.out) | exact cells_at (old_block (bal (bal HBd.out)) (Array.getElem?_eq_some_iff.1 HO1.out).1 HO1.out)
                      clear hK K
                      try simp only [Act.put, List.setIfInBounds_toArray, List.set_cons_zero, List.set_cons_succ]
                      refine wpAnyH_ready (rs := [6, 13]) (by kernel_rfl) (by simp) ?_
                      refine AllReadyH.cons (o := { dst := some 124, op := Op.buildSlice 40 2 #[(0, Operand.tmp 121), (1, Operand.tmp 123)], type := 40, pos := "law.go:127", after := #[{ on := 3, ground := Ground.data }, { on := 5, ground := Ground.data }], guard := none }) rfl (fun K hK => ?_) ?_
                      · go_simp
                        refine hK.out _ _ ?_ (fun hHeld => ?_)
                        · first | exact cells_at HOf.out | exact cells_at HOe.out | exact cells_at HOc.out | exact cells_at (old_block (below1 _ _) (Array.getElem?_eq_some_iff.1 HOc.out).1 HOc.out) | exact cells_at HOd.out | exact cells_at (old_block (bal HBd.out) (Array.getElem?_eq_some_iff.1 HO1.out).1 HO1.out) | exact cells_at (old_block (bal (bal HBd.out)) (Array.getElem?_eq_some_iff.1 HO1.out).1 HO1.out)
                        clear hK K
                        try simp only [Act.put, List.setIfInBounds_toArray, List.set_cons_zero, List.set_cons_succ]
                        refine wpAnyH_ready (rs := [7, 13]) (by kernel_rfl) (by simp) ?_
                        refine AllReadyH.cons (o := { dst := some 125, op := Op.call { callee := Callee.value (Operand.func 21), args := #[Operand.tmp 118, Operand.tmp 124], argTypes := #[24, 40] }, type := 24, pos := "law.go:127", after := #[{ on := 0, ground := Ground.data }, { on := 6, ground := Ground.data }], guard := none }) rfl (fun K hK => ?_) ?_
                        · go_simp
                          go_at_call 21
                          have hh := T1
                          with_reducible refine HK1.out.mono ?_
                          rintro e v3 ⟨A6, n6, c6, rfl, hn6, hL, hb⟩
                          have HB3 := hid (HV1.out.trans (hb.out.mono HV1.out.size))
                          have HOc := hid (old_block HB3.out (Array.getElem?_eq_some_iff.1 HO1.out).1 HO1.out)
                          have hx3 := cells_at (HS1.out.later HB3.out).box
                          have hx3b := fun o => cells_at ((HS1.out.later HB3.out).later (below1 v3 o)).box
                          have HIn : v1.heap.size ≤ v3.heap.size := HB3.out.size
                          have HZB : Hid (Below v1.heap.size v1 (v3.alloc (.cells #[.int .i64 x, .int .i64 (-y)] 3))) := hid (bal HB3.out)
                          have HZ : Hid (Calls Try.prog 21 #[form N A6 n6 c6, .slice (some ⟨v3.heap.size, 0, none⟩) 2 2] (v3.alloc (.cells #[.int .i64 x, .int .i64 (-y)] 3)) (PutNew (v3.alloc (.cells #[.int .i64 x, .int .i64 (-y)] 3)) (fun b => Apart w.heap.size w1.heap.size A' b ∨ v1.heap.size ≤ b) N (putF N (putF N ls [-x, y]) [x, -y]) n6)) := hid (putp_new N (putF N ls [-x, y]) [x, -y] (fun b => Apart w.heap.size w1.heap.size A' b ∨ v1.heap.size ≤ b) v1.heap.size A6 (some ⟨v3.heap.size, 0, none⟩) n6 c6 2 2 (v3.alloc (.cells #[.int .i64 x, .int .i64 (-y)] 3)) (hL.out.keep (below1 v3 _).size fun b _ hl => (below1 v3 _).block b hl) (two_intsP (heap_alloc_new v3 (.cells #[.int .i64 x, .int .i64 (-y)] 3)) (.inr HIn)) ⟨hN0, by omega⟩ (by omega) (by omega) HZB.out.size (fun b h => .inr h))
                          clear hL hb T1 hh
                          try go_wp2_with fail
                          refine hK.out _ _ ?_ (fun hHeld => ?_)
                          · first | exact cells_at HOf.out | exact cells_at HOe.out | exact cells_at HOc.out | exact cells_at (old_block (below1 _ _) (Array.getElem?_eq_some_iff.1 HOc.out).1 HOc.out) | exact cells_at HOd.out | exact cells_at (old_block (bal HBd.out) (Array.getElem?_eq_some_iff.1 HO1.out).1 HO1.out) | exact cells_at (old_block (bal (bal HBd.out)) (Array.getElem?_eq_some_iff.1 HO1.out).1 HO1.out)
                          clear hK K
                          try simp only [Act.put, List.setIfInBounds_toArray, List.set_cons_zero, List.set_cons_succ]
                          refine wpAnyH_ready (rs := [13]) (by kernel_rfl) (by simp) ?_
                          refine AllReadyH.cons (o := { dst := some 131, op := Op.buildSlice 40 2 #[(0, Operand.tmp 127), (1, Operand.tmp 130)], type := 40, pos := "law.go:127", after := #[{ on := 9, ground := Ground.data }, { on := 12, ground := Ground.data }], guard := none }) rfl (fun K hK => ?_) ?_
                          · go_simp
                            refine hK.out _ _ ?_ (fun hHeld => ?_)
                            · first | exact cells_at HOf.out | exact cells_at HOe.out | exact cells_at HOc.out | exact cells_at (old_block (below1 _ _) (Array.getElem?_eq_some_iff.1 HOc.out).1 HOc.out) | exact cells_at HOd.out | exact cells_at (old_block (bal HBd.out) (Array.getElem?_eq_some_iff.1 HO1.out).1 HO1.out) | exact cells_at (old_block (bal (bal HBd.out)) (Array.getElem?_eq_some_iff.1 HO1.out).1 HO1.out)
                            clear hK K
                            try simp only [Act.put, List.setIfInBounds_toArray, List.set_cons_zero, List.set_cons_succ]
                            refine wpAnyH_ready (rs := [14]) (by kernel_rfl) (by simp) ?_
                            refine AllReadyH.cons (o := { dst := some 132, op := Op.call { callee := Callee.value (Operand.func 21), args := #[Operand.tmp 125, Operand.tmp 131], argTypes := #[24, 40] }, type := 24, pos := "law.go:127", after := #[{ on := 7, ground := Ground.data }, { on := 13, ground := Ground.data }, { on := 7, ground := Ground.chain }], guard := none }) rfl (fun K hK => ?_) ?_
                            · go_simp
                              go_at_call 21
                              with_reducible refine HZ.out.mono ?_
                              rintro e v4 ⟨A7, n7, c7, rfl, hn7, hL, hb⟩
                              have HB4 := hid (HZB.out.trans (hb.out.mono HZB.out.size))
                              have HS4 := hid (HS1.out.later HB4.out)
                              have HOe := hid (old_block HB4.out (Array.getElem?_eq_some_iff.1 HO1.out).1 HO1.out)
                              have hx4 := cells_at HS4.out.box
                              have hf4 := frozen_no HS4.out.box
                              have HP := hid (HS1.out.put (M' := N) (c6 := c7) hL.out HB4.out)
                              have HOf := hid (put2_other (.int .i64 N) (.slice A7 n7 c7) (Ne.symm hkk) HOe.out)
                              clear hL hb
                              try go_wp2_with fail
                              refine hK.out _ _ ?_ (fun hHeld => ?_)
                              · first | exact cells_at HOf.out | exact cells_at HOe.out | exact cells_at HOc.out | exact cells_at (old_block (below1 _ _) (Array.getElem?_eq_some_iff.1 HOc.out).1 HOc.out) | exact cells_at HOd.out | exact cells_at (old_block (bal HBd.out) (Array.getElem?_eq_some_iff.1 HO1.out).1 HO1.out) | exact cells_at (old_block (bal (bal HBd.out)) (Array.getElem?_eq_some_iff.1 HO1.out).1 HO1.out)
                              clear hK K
                              try simp only [Act.put, List.setIfInBounds_toArray, List.set_cons_zero, List.set_cons_succ]
                              refine wpAnyH_ready (rs := [15]) (by kernel_rfl) (by simp) ?_
                              refine AllReadyH.cons (o := { dst := none, op := Op.store 24 (Operand.tmp 5) (Operand.tmp 132), type := 0, pos := "law.go:127", after := #[{ on := 14, ground := Ground.data }, { on := 14, ground := Ground.chain }, { on := 0, ground := Ground.phase }, { on := 1, ground := Ground.phase }, { on := 2, ground := Ground.phase }, { on := 3, ground := Ground.phase }, { on := 4, ground := Ground.phase }, { on := 5, ground := Ground.phase }, { on := 6, ground := Ground.phase }, { on := 7, ground := Ground.phase }, { on := 8, ground := Ground.phase }, { on := 9, ground := Ground.phase }, { on := 10, ground := Ground.phase }, { on := 11, ground := Ground.phase }, { on := 12, ground := Ground.phase }, { on := 13, ground := Ground.phase }, { on := 14, ground := Ground.phase }], guard := none }) rfl (fun K hK => ?_) ?_
                              · go_simp
                                refine hK.out _ _ ?_ (fun hHeld => ?_)
                                · first | exact cells_at HOf.out | exact cells_at HOe.out | exact cells_at HOc.out | exact cells_at (old_block (below1 _ _) (Array.getElem?_eq_some_iff.1 HOc.out).1 HOc.out) | exact cells_at HOd.out | exact cells_at (old_block (bal HBd.out) (Array.getElem?_eq_some_iff.1 HO1.out).1 HO1.out) | exact cells_at (old_block (bal (bal HBd.out)) (Array.getElem?_eq_some_iff.1 HO1.out).1 HO1.out)
                                clear hK K
                                try simp only [Act.put, List.setIfInBounds_toArray, List.set_cons_zero, List.set_cons_succ]
                                refine wpAnyH_done (by kernel_rfl) ?_ _
                                refine NoPanic.normal ?_
                                go_wp2_with fail
                                go_meet
                                exact hid (swt_mk HP.out (putF_short (putF_short HSh.out (by simp)) (by simp)) (by omega) (by have := putF_len N ls [-x, y]; have := putF_len N (putF N ls [-x, y]) [x, -y]; have := hlen1.out; omega) HOf.out)
                              exact AllReadyH.nil
                            exact AllReadyH.nil
                          exact AllReadyH.nil
                        refine AllReadyH.cons (o := { dst := some 131, op := Op.buildSlice 40 2 #[(0, Operand.tmp 127), (1, Operand.tmp 130)], type := 40, pos := "law.go:127", after := #[{ on := 9, ground := Ground.data }, { on := 12, ground := Ground.data }], guard := none }) rfl (fun K hK => ?_) ?_
                        · go_simp
                          refine hK.out _ _ ?_ (fun hHeld => ?_)
                          · first | exact cells_at HOf.out | exact cells_at HOe.out | exact cells_at HOc.out | exact cells_at (old_block (below1 _ _) (Array.getElem?_eq_some_iff.1 HOc.out).1 HOc.out) | exact cells_at HOd.out | exact cells_at (old_block (bal HBd.out) (Array.getElem?_eq_some_iff.1 HO1.out).1 HO1.out) | exact cells_at (old_block (bal (bal HBd.out)) (Array.getElem?_eq_some_iff.1 HO1.out).1 HO1.out)
                          clear hK K
                          try simp only [Act.put, List.setIfInBounds_toArray, List.set_cons_zero, List.set_cons_succ]
                          refine wpAnyH_ready (rs := [7]) (by kernel_rfl) (by simp) ?_
                          refine AllReadyH.cons (o := { dst := some 125, op := Op.call { callee := Callee.value (Operand.func 21), args := #[Operand.tmp 118, Operand.tmp 124], argTypes := #[24, 40] }, type := 24, pos := "law.go:127", after := #[{ on := 0, ground := Ground.data }, { on := 6, ground := Ground.data }], guard := none }) rfl (fun K hK => ?_) ?_
                          · go_simp
                            go_at_call 21
                            have hh := T1
                            with_reducible refine HK2.out.mono ?_
                            rintro e v3 ⟨A6, n6, c6, rfl, hn6, hL, hb⟩
                            have HB3 := hid (HV2.out.trans (hb.out.mono HV2.out.size))
                            have HOc := hid (old_block HB3.out (Array.getElem?_eq_some_iff.1 HO1.out).1 HO1.out)
                            have hx3 := cells_at (HS1.out.later HB3.out).box
                            have hx3b := fun o => cells_at ((HS1.out.later HB3.out).later (below1 v3 o)).box
                            have HIn : v1.heap.size ≤ v1.heap.size + 1 := Nat.le_succ _
                            have HZB : Hid (Below v1.heap.size v1 (v3)) := hid (HB3.out)
                            have HZ : Hid (Calls Try.prog 21 #[form N A6 n6 c6, .slice (some ⟨v1.heap.size + 1, 0, none⟩) 2 2] (v3) (PutNew (v3) (fun b => Apart w.heap.size w1.heap.size A' b ∨ v1.heap.size ≤ b) N (putF N (putF N ls [-x, y]) [x, -y]) n6)) := hid (putp_new N (putF N ls [-x, y]) [x, -y] (fun b => Apart w.heap.size w1.heap.size A' b ∨ v1.heap.size ≤ b) v1.heap.size A6 (some ⟨v1.heap.size + 1, 0, none⟩) n6 c6 2 2 (v3) (hL.out) (two_intsP (old_block hb.out (Array.getElem?_eq_some_iff.1 HC2.out).1 HC2.out) (.inr HIn)) ⟨hN0, by omega⟩ (by omega) (by omega) HZB.out.size (fun b h => .inr h))
                            clear hL hb T1 hh
                            try go_wp2_with fail
                            refine hK.out _ _ ?_ (fun hHeld => ?_)
                            · first | exact cells_at HOf.out | exact cells_at HOe.out | exact cells_at HOc.out | exact cells_at (old_block (below1 _ _) (Array.getElem?_eq_some_iff.1 HOc.out).1 HOc.out) | exact cells_at HOd.out | exact cells_at (old_block (bal HBd.out) (Array.getElem?_eq_some_iff.1 HO1.out).1 HO1.out) | exact cells_at (old_block (bal (bal HBd.out)) (Array.getElem?_eq_some_iff.1 HO1.out).1 HO1.out)
                            clear hK K
                            try simp only [Act.put, List.setIfInBounds_toArray, List.set_cons_zero, List.set_cons_succ]
                            refine wpAnyH_ready (rs := [14]) (by kernel_rfl) (by simp) ?_
                            refine AllReadyH.cons (o := { dst := some 132, op := Op.call { callee := Callee.value (Operand.func 21), args := #[Operand.tmp 125, Operand.tmp 131], argTypes := #[24, 40] }, type := 24, pos := "law.go:127", after := #[{ on := 7, ground := Ground.data }, { on := 13, ground := Ground.data }, { on := 7, ground := Ground.chain }], guard := none }) rfl (fun K hK => ?_) ?_
                            · go_simp
                              go_at_call 21
                              with_reducible refine HZ.out.mono ?_
                              rintro e v4 ⟨A7, n7, c7, rfl, hn7, hL, hb⟩
                              have HB4 := hid (HZB.out.trans (hb.out.mono HZB.out.size))
                              have HS4 := hid (HS1.out.later HB4.out)
                              have HOe := hid (old_block HB4.out (Array.getElem?_eq_some_iff.1 HO1.out).1 HO1.out)
                              have hx4 := cells_at HS4.out.box
                              have hf4 := frozen_no HS4.out.box
                              have HP := hid (HS1.out.put (M' := N) (c6 := c7) hL.out HB4.out)
                              have HOf := hid (put2_other (.int .i64 N) (.slice A7 n7 c7) (Ne.symm hkk) HOe.out)
                              clear hL hb
                              try go_wp2_with fail
                              refine hK.out _ _ ?_ (fun hHeld => ?_)
                              · first | exact cells_at HOf.out | exact cells_at HOe.out | exact cells_at HOc.out | exact cells_at (old_block (below1 _ _) (Array.getElem?_eq_some_iff.1 HOc.out).1 HOc.out) | exact cells_at HOd.out | exact cells_at (old_block (bal HBd.out) (Array.getElem?_eq_some_iff.1 HO1.out).1 HO1.out) | exact cells_at (old_block (bal (bal HBd.out)) (Array.getElem?_eq_some_iff.1 HO1.out).1 HO1.out)
                              clear hK K
                              try simp only [Act.put, List.setIfInBounds_toArray, List.set_cons_zero, List.set_cons_succ]
                              refine wpAnyH_ready (rs := [15]) (by kernel_rfl) (by simp) ?_
                              refine AllReadyH.cons (o := { dst := none, op := Op.store 24 (Operand.tmp 5) (Operand.tmp 132), type := 0, pos := "law.go:127", after := #[{ on := 14, ground := Ground.data }, { on := 14, ground := Ground.chain }, { on := 0, ground := Ground.phase }, { on := 1, ground := Ground.phase }, { on := 2, ground := Ground.phase }, { on := 3, ground := Ground.phase }, { on := 4, ground := Ground.phase }, { on := 5, ground := Ground.phase }, { on := 6, ground := Ground.phase }, { on := 7, ground := Ground.phase }, { on := 8, ground := Ground.phase }, { on := 9, ground := Ground.phase }, { on := 10, ground := Ground.phase }, { on := 11, ground := Ground.phase }, { on := 12, ground := Ground.phase }, { on := 13, ground := Ground.phase }, { on := 14, ground := Ground.phase }], guard := none }) rfl (fun K hK => ?_) ?_
                              · go_simp
                                refine hK.out _ _ ?_ (fun hHeld => ?_)
                                · first | exact cells_at HOf.out | exact cells_at HOe.out | exact cells_at HOc.out | exact cells_at (old_block (below1 _ _) (Array.getElem?_eq_some_iff.1 HOc.out).1 HOc.out) | exact cells_at HOd.out | exact cells_at (old_block (bal HBd.out) (Array.getElem?_eq_some_iff.1 HO1.out).1 HO1.out) | exact cells_at (old_block (bal (bal HBd.out)) (Array.getElem?_eq_some_iff.1 HO1.out).1 HO1.out)
                                clear hK K
                                try simp only [Act.put, List.setIfInBounds_toArray, List.set_cons_zero, List.set_cons_succ]
                                refine wpAnyH_done (by kernel_rfl) ?_ _
                                refine NoPanic.normal ?_
                                go_wp2_with fail
                                go_meet
                                exact hid (swt_mk HP.out (putF_short (putF_short HSh.out (by simp)) (by simp)) (by omega) (by have := putF_len N ls [-x, y]; have := putF_len N (putF N ls [-x, y]) [x, -y]; have := hlen1.out; omega) HOf.out)
                              exact AllReadyH.nil
                            exact AllReadyH.nil
                          exact AllReadyH.nil
                        exact AllReadyH.nil
                      refine AllReadyH.cons (o := { dst := some 131, op := Op.buildSlice 40 2 #[(0, Operand.tmp 127), (1, Operand.tmp 130)], type := 40, pos := "law.go:127", after := #[{ on := 9, ground := Ground.data }, { on := 12, ground := Ground.data }], guard := none }) rfl (fun K hK => ?_) ?_
                      · go_simp
                        refine hK.out _ _ ?_ (fun hHeld => ?_)
                        · first | exact cells_at HOf.out | exact cells_at HOe.out | exact cells_at HOc.out | exact cells_at (old_block (below1 _ _) (Array.getElem?_eq_some_iff.1 HOc.out).1 HOc.out) | exact cells_at HOd.out | exact cells_at (old_block (bal HBd.out) (Array.getElem?_eq_some_iff.1 HO1.out).1 HO1.out) | exact cells_at (old_block (bal (bal HBd.out)) (Array.getElem?_eq_some_iff.1 HO1.out).1 HO1.out)
                        clear hK K
                        try simp only [Act.put, List.setIfInBounds_toArray, List.set_cons_zero, List.set_cons_succ]
                        refine wpAnyH_ready (rs := [6]) (by kernel_rfl) (by simp) ?_
                        refine AllReadyH.cons (o := { dst := some 124, op := Op.buildSlice 40 2 #[(0, Operand.tmp 121), (1, Operand.tmp 123)], type := 40, pos := "law.go:127", after := #[{ on := 3, ground := Ground.data }, { on := 5, ground := Ground.data }], guard := none }) rfl (fun K hK => ?_) ?_
                        · go_simp
                          refine hK.out _ _ ?_ (fun hHeld => ?_)
                          · first | exact cells_at HOf.out | exact cells_at HOe.out | exact cells_at HOc.out | exact cells_at (old_block (below1 _ _) (Array.getElem?_eq_some_iff.1 HOc.out).1 HOc.out) | exact cells_at HOd.out | exact cells_at (old_block (bal HBd.out) (Array.getElem?_eq_some_iff.1 HO1.out).1 HO1.out) | exact cells_at (old_block (bal (bal HBd.out)) (Array.getElem?_eq_some_iff.1 HO1.out).1 HO1.out)
                          clear hK K
                          try simp only [Act.put, List.setIfInBounds_toArray, List.set_cons_zero, List.set_cons_succ]
                          refine wpAnyH_ready (rs := [7]) (by kernel_rfl) (by simp) ?_
                          refine AllReadyH.cons (o := { dst := some 125, op := Op.call { callee := Callee.value (Operand.func 21), args := #[Operand.tmp 118, Operand.tmp 124], argTypes := #[24, 40] }, type := 24, pos := "law.go:127", after := #[{ on := 0, ground := Ground.data }, { on := 6, ground := Ground.data }], guard := none }) rfl (fun K hK => ?_) ?_
                          · go_simp
                            go_at_call 21
                            have hh := T1
                            with_reducible refine HK3.out.mono ?_
                            rintro e v3 ⟨A6, n6, c6, rfl, hn6, hL, hb⟩
                            have HB3 := hid (HV3.out.trans (hb.out.mono HV3.out.size))
                            have HOc := hid (old_block HB3.out (Array.getElem?_eq_some_iff.1 HO1.out).1 HO1.out)
                            have hx3 := cells_at (HS1.out.later HB3.out).box
                            have hx3b := fun o => cells_at ((HS1.out.later HB3.out).later (below1 v3 o)).box
                            have HIn : v1.heap.size ≤ v1.heap.size := Nat.le_refl _
                            have HZB : Hid (Below v1.heap.size v1 (v3)) := hid (HB3.out)
                            have HZ : Hid (Calls Try.prog 21 #[form N A6 n6 c6, .slice (some ⟨v1.heap.size, 0, none⟩) 2 2] (v3) (PutNew (v3) (fun b => Apart w.heap.size w1.heap.size A' b ∨ v1.heap.size ≤ b) N (putF N (putF N ls [-x, y]) [x, -y]) n6)) := hid (putp_new N (putF N ls [-x, y]) [x, -y] (fun b => Apart w.heap.size w1.heap.size A' b ∨ v1.heap.size ≤ b) v1.heap.size A6 (some ⟨v1.heap.size, 0, none⟩) n6 c6 2 2 (v3) (hL.out) (two_intsP (old_block hb.out (Array.getElem?_eq_some_iff.1 HC3.out).1 HC3.out) (.inr HIn)) ⟨hN0, by omega⟩ (by omega) (by omega) HZB.out.size (fun b h => .inr h))
                            clear hL hb T1 hh
                            try go_wp2_with fail
                            refine hK.out _ _ ?_ (fun hHeld => ?_)
                            · first | exact cells_at HOf.out | exact cells_at HOe.out | exact cells_at HOc.out | exact cells_at (old_block (below1 _ _) (Array.getElem?_eq_some_iff.1 HOc.out).1 HOc.out) | exact cells_at HOd.out | exact cells_at (old_block (bal HBd.out) (Array.getElem?_eq_some_iff.1 HO1.out).1 HO1.out) | exact cells_at (old_block (bal (bal HBd.out)) (Array.getElem?_eq_some_iff.1 HO1.out).1 HO1.out)
                            clear hK K
                            try simp only [Act.put, List.setIfInBounds_toArray, List.set_cons_zero, List.set_cons_succ]
                            refine wpAnyH_ready (rs := [14]) (by kernel_rfl) (by simp) ?_
                            refine AllReadyH.cons (o := { dst := some 132, op := Op.call { callee := Callee.value (Operand.func 21), args := #[Operand.tmp 125, Operand.tmp 131], argTypes := #[24, 40] }, type := 24, pos := "law.go:127", after := #[{ on := 7, ground := Ground.data }, { on := 13, ground := Ground.data }, { on := 7, ground := Ground.chain }], guard := none }) rfl (fun K hK => ?_) ?_
                            · go_simp
                              go_at_call 21
                              with_reducible refine HZ.out.mono ?_
                              rintro e v4 ⟨A7, n7, c7, rfl, hn7, hL, hb⟩
                              have HB4 := hid (HZB.out.trans (hb.out.mono HZB.out.size))
                              have HS4 := hid (HS1.out.later HB4.out)
                              have HOe := hid (old_block HB4.out (Array.getElem?_eq_some_iff.1 HO1.out).1 HO1.out)
                              have hx4 := cells_at HS4.out.box
                              have hf4 := frozen_no HS4.out.box
                              have HP := hid (HS1.out.put (M' := N) (c6 := c7) hL.out HB4.out)
                              have HOf := hid (put2_other (.int .i64 N) (.slice A7 n7 c7) (Ne.symm hkk) HOe.out)
                              clear hL hb
                              try go_wp2_with fail
                              refine hK.out _ _ ?_ (fun hHeld => ?_)
                              · first | exact cells_at HOf.out | exact cells_at HOe.out | exact cells_at HOc.out | exact cells_at (old_block (below1 _ _) (Array.getElem?_eq_some_iff.1 HOc.out).1 HOc.out) | exact cells_at HOd.out | exact cells_at (old_block (bal HBd.out) (Array.getElem?_eq_some_iff.1 HO1.out).1 HO1.out) | exact cells_at (old_block (bal (bal HBd.out)) (Array.getElem?_eq_some_iff.1 HO1.out).1 HO1.out)
                              clear hK K
                              try simp only [Act.put, List.setIfInBounds_toArray, List.set_cons_zero, List.set_cons_succ]
                              refine wpAnyH_ready (rs := [15]) (by kernel_rfl) (by simp) ?_
                              refine AllReadyH.cons (o := { dst := none, op := Op.store 24 (Operand.tmp 5) (Operand.tmp 132), type := 0, pos := "law.go:127", after := #[{ on := 14, ground := Ground.data }, { on := 14, ground := Ground.chain }, { on := 0, ground := Ground.phase }, { on := 1, ground := Ground.phase }, { on := 2, ground := Ground.phase }, { on := 3, ground := Ground.phase }, { on := 4, ground := Ground.phase }, { on := 5, ground := Ground.phase }, { on := 6, ground := Ground.phase }, { on := 7, ground := Ground.phase }, { on := 8, ground := Ground.phase }, { on := 9, ground := Ground.phase }, { on := 10, ground := Ground.phase }, { on := 11, ground := Ground.phase }, { on := 12, ground := Ground.phase }, { on := 13, ground := Ground.phase }, { on := 14, ground := Ground.phase }], guard := none }) rfl (fun K hK => ?_) ?_
                              · go_simp
                                refine hK.out _ _ ?_ (fun hHeld => ?_)
                                · first | exact cells_at HOf.out | exact cells_at HOe.out | exact cells_at HOc.out | exact cells_at (old_block (below1 _ _) (Array.getElem?_eq_some_iff.1 HOc.out).1 HOc.out) | exact cells_at HOd.out | exact cells_at (old_block (bal HBd.out) (Array.getElem?_eq_some_iff.1 HO1.out).1 HO1.out) | exact cells_at (old_block (bal (bal HBd.out)) (Array.getElem?_eq_some_iff.1 HO1.out).1 HO1.out)
                                clear hK K
                                try simp only [Act.put, List.setIfInBounds_toArray, List.set_cons_zero, List.set_cons_succ]
                                refine wpAnyH_done (by kernel_rfl) ?_ _
                                refine NoPanic.normal ?_
                                go_wp2_with fail
                                go_meet
                                exact hid (swt_mk HP.out (putF_short (putF_short HSh.out (by simp)) (by simp)) (by omega) (by have := putF_len N ls [-x, y]; have := putF_len N (putF N ls [-x, y]) [x, -y]; have := hlen1.out; omega) HOf.out)
                              exact AllReadyH.nil
                            exact AllReadyH.nil
                          exact AllReadyH.nil
                        exact AllReadyH.nil
                      exact AllReadyH.nil
                    refine AllReadyH.cons (o := { dst := some 124, op := Op.buildSlice 40 2 #[(0, Operand.tmp 121), (1, Operand.tmp 123)], type := 40, pos := "law.go:127", after := #[{ on := 3, ground := Ground.data }, { on := 5, ground := Ground.data }], guard := none }) rfl (fun K hK => ?_) ?_
                    · go_simp
                      refine hK.out _ _ ?_ (fun hHeld => ?_)
                      · first | exact cells_at HOf.out | exact cells_at HOe.out | exact cells_at HOc.out | exact cells_at (old_block (below1 _ _) (Array.getElem?_eq_some_iff.1 HOc.out).1 HOc.out) | exact cells_at HOd.out | exact cells_at (old_block (bal HBd.out) (Array.getElem?_eq_some_iff.1 HO1.out).1 HO1.out) | exact cells_at (old_block (bal (bal HBd.out)) (Array.getElem?_eq_some_iff.1 HO1.out).1 HO1.out)
                      clear hK K
                      try simp only [Act.put, List.setIfInBounds_toArray, List.set_cons_zero, List.set_cons_succ]
                      refine wpAnyH_ready (rs := [0, 13]) (by kernel_rfl) (by simp) ?_
                      refine AllReadyH.cons (o := { dst := some 118, op := Op.load 24 (Operand.tmp 5), type := 24, pos := "law.go:127", after := #[], guard := none }) rfl (fun K hK => ?_) ?_
                      · go_simp
                        refine hK.out _ _ ?_ (fun hHeld => ?_)
                        · first | exact cells_at HOf.out | exact cells_at HOe.out | exact cells_at HOc.out | exact cells_at (old_block (below1 _ _) (Array.getElem?_eq_some_iff.1 HOc.out).1 HOc.out) | exact cells_at HOd.out | exact cells_at (old_block (bal HBd.out) (Array.getElem?_eq_some_iff.1 HO1.out).1 HO1.out) | exact cells_at (old_block (bal (bal HBd.out)) (Array.getElem?_eq_some_iff.1 HO1.out).1 HO1.out)
                        clear hK K
                        try simp only [Act.put, List.setIfInBounds_toArray, List.set_cons_zero, List.set_cons_succ]
                        refine wpAnyH_ready (rs := [7, 13]) (by kernel_rfl) (by simp) ?_
                        refine AllReadyH.cons (o := { dst := some 125, op := Op.call { callee := Callee.value (Operand.func 21), args := #[Operand.tmp 118, Operand.tmp 124], argTypes := #[24, 40] }, type := 24, pos := "law.go:127", after := #[{ on := 0, ground := Ground.data }, { on := 6, ground := Ground.data }], guard := none }) rfl (fun K hK => ?_) ?_
                        · go_simp
                          go_at_call 21
                          have hh := T1
                          with_reducible refine HK1.out.mono ?_
                          rintro e v3 ⟨A6, n6, c6, rfl, hn6, hL, hb⟩
                          have HB3 := hid (HV1.out.trans (hb.out.mono HV1.out.size))
                          have HOc := hid (old_block HB3.out (Array.getElem?_eq_some_iff.1 HO1.out).1 HO1.out)
                          have hx3 := cells_at (HS1.out.later HB3.out).box
                          have hx3b := fun o => cells_at ((HS1.out.later HB3.out).later (below1 v3 o)).box
                          have HIn : v1.heap.size ≤ v3.heap.size := HB3.out.size
                          have HZB : Hid (Below v1.heap.size v1 (v3.alloc (.cells #[.int .i64 x, .int .i64 (-y)] 3))) := hid (bal HB3.out)
                          have HZ : Hid (Calls Try.prog 21 #[form N A6 n6 c6, .slice (some ⟨v3.heap.size, 0, none⟩) 2 2] (v3.alloc (.cells #[.int .i64 x, .int .i64 (-y)] 3)) (PutNew (v3.alloc (.cells #[.int .i64 x, .int .i64 (-y)] 3)) (fun b => Apart w.heap.size w1.heap.size A' b ∨ v1.heap.size ≤ b) N (putF N (putF N ls [-x, y]) [x, -y]) n6)) := hid (putp_new N (putF N ls [-x, y]) [x, -y] (fun b => Apart w.heap.size w1.heap.size A' b ∨ v1.heap.size ≤ b) v1.heap.size A6 (some ⟨v3.heap.size, 0, none⟩) n6 c6 2 2 (v3.alloc (.cells #[.int .i64 x, .int .i64 (-y)] 3)) (hL.out.keep (below1 v3 _).size fun b _ hl => (below1 v3 _).block b hl) (two_intsP (heap_alloc_new v3 (.cells #[.int .i64 x, .int .i64 (-y)] 3)) (.inr HIn)) ⟨hN0, by omega⟩ (by omega) (by omega) HZB.out.size (fun b h => .inr h))
                          clear hL hb T1 hh
                          try go_wp2_with fail
                          refine hK.out _ _ ?_ (fun hHeld => ?_)
                          · first | exact cells_at HOf.out | exact cells_at HOe.out | exact cells_at HOc.out | exact cells_at (old_block (below1 _ _) (Array.getElem?_eq_some_iff.1 HOc.out).1 HOc.out) | exact cells_at HOd.out | exact cells_at (old_block (bal HBd.out) (Array.getElem?_eq_some_iff.1 HO1.out).1 HO1.out) | exact cells_at (old_block (bal (bal HBd.out)) (Array.getElem?_eq_some_iff.1 HO1.out).1 HO1.out)
                          clear hK K
                          try simp only [Act.put, List.setIfInBounds_toArray, List.set_cons_zero, List.set_cons_succ]
                          refine wpAnyH_ready (rs := [13]) (by kernel_rfl) (by simp) ?_
                          refine AllReadyH.cons (o := { dst := some 131, op := Op.buildSlice 40 2 #[(0, Operand.tmp 127), (1, Operand.tmp 130)], type := 40, pos := "law.go:127", after := #[{ on := 9, ground := Ground.data }, { on := 12, ground := Ground.data }], guard := none }) rfl (fun K hK => ?_) ?_
                          · go_simp
                            refine hK.out _ _ ?_ (fun hHeld => ?_)
                            · first | exact cells_at HOf.out | exact cells_at HOe.out | exact cells_at HOc.out | exact cells_at (old_block (below1 _ _) (Array.getElem?_eq_some_iff.1 HOc.out).1 HOc.out) | exact cells_at HOd.out | exact cells_at (old_block (bal HBd.out) (Array.getElem?_eq_some_iff.1 HO1.out).1 HO1.out) | exact cells_at (old_block (bal (bal HBd.out)) (Array.getElem?_eq_some_iff.1 HO1.out).1 HO1.out)
                            clear hK K
                            try simp only [Act.put, List.setIfInBounds_toArray, List.set_cons_zero, List.set_cons_succ]
                            refine wpAnyH_ready (rs := [14]) (by kernel_rfl) (by simp) ?_
                            refine AllReadyH.cons (o := { dst := some 132, op := Op.call { callee := Callee.value (Operand.func 21), args := #[Operand.tmp 125, Operand.tmp 131], argTypes := #[24, 40] }, type := 24, pos := "law.go:127", after := #[{ on := 7, ground := Ground.data }, { on := 13, ground := Ground.data }, { on := 7, ground := Ground.chain }], guard := none }) rfl (fun K hK => ?_) ?_
                            · go_simp
                              go_at_call 21
                              with_reducible refine HZ.out.mono ?_
                              rintro e v4 ⟨A7, n7, c7, rfl, hn7, hL, hb⟩
                              have HB4 := hid (HZB.out.trans (hb.out.mono HZB.out.size))
                              have HS4 := hid (HS1.out.later HB4.out)
                              have HOe := hid (old_block HB4.out (Array.getElem?_eq_some_iff.1 HO1.out).1 HO1.out)
                              have hx4 := cells_at HS4.out.box
                              have hf4 := frozen_no HS4.out.box
                              have HP := hid (HS1.out.put (M' := N) (c6 := c7) hL.out HB4.out)
                              have HOf := hid (put2_other (.int .i64 N) (.slice A7 n7 c7) (Ne.symm hkk) HOe.out)
                              clear hL hb
                              try go_wp2_with fail
                              refine hK.out _ _ ?_ (fun hHeld => ?_)
                              · first | exact cells_at HOf.out | exact cells_at HOe.out | exact cells_at HOc.out | exact cells_at (old_block (below1 _ _) (Array.getElem?_eq_some_iff.1 HOc.out).1 HOc.out) | exact cells_at HOd.out | exact cells_at (old_block (bal HBd.out) (Array.getElem?_eq_some_iff.1 HO1.out).1 HO1.out) | exact cells_at (old_block (bal (bal HBd.out)) (Array.getElem?_eq_some_iff.1 HO1.out).1 HO1.out)
                              clear hK K
                              try simp only [Act.put, List.setIfInBounds_toArray, List.set_cons_zero, List.set_cons_succ]
                              refine wpAnyH_ready (rs := [15]) (by kernel_rfl) (by simp) ?_
                              refine AllReadyH.cons (o := { dst := none, op := Op.store 24 (Operand.tmp 5) (Operand.tmp 132), type := 0, pos := "law.go:127", after := #[{ on := 14, ground := Ground.data }, { on := 14, ground := Ground.chain }, { on := 0, ground := Ground.phase }, { on := 1, ground := Ground.phase }, { on := 2, ground := Ground.phase }, { on := 3, ground := Ground.phase }, { on := 4, ground := Ground.phase }, { on := 5, ground := Ground.phase }, { on := 6, ground := Ground.phase }, { on := 7, ground := Ground.phase }, { on := 8, ground := Ground.phase }, { on := 9, ground := Ground.phase }, { on := 10, ground := Ground.phase }, { on := 11, ground := Ground.phase }, { on := 12, ground := Ground.phase }, { on := 13, ground := Ground.phase }, { on := 14, ground := Ground.phase }], guard := none }) rfl (fun K hK => ?_) ?_
                              · go_simp
                                refine hK.out _ _ ?_ (fun hHeld => ?_)
                                · first | exact cells_at HOf.out | exact cells_at HOe.out | exact cells_at HOc.out | exact cells_at (old_block (below1 _ _) (Array.getElem?_eq_some_iff.1 HOc.out).1 HOc.out) | exact cells_at HOd.out | exact cells_at (old_block (bal HBd.out) (Array.getElem?_eq_some_iff.1 HO1.out).1 HO1.out) | exact cells_at (old_block (bal (bal HBd.out)) (Array.getElem?_eq_some_iff.1 HO1.out).1 HO1.out)
                                clear hK K
                                try simp only [Act.put, List.setIfInBounds_toArray, List.set_cons_zero, List.set_cons_succ]
                                refine wpAnyH_done (by kernel_rfl) ?_ _
                                refine NoPanic.normal ?_
                                go_wp2_with fail
                                go_meet
                                exact hid (swt_mk HP.out (putF_short (putF_short HSh.out (by simp)) (by simp)) (by omega) (by have := putF_len N ls [-x, y]; have := putF_len N (putF N ls [-x, y]) [x, -y]; have := hlen1.out; omega) HOf.out)
                              exact AllReadyH.nil
                            exact AllReadyH.nil
                          exact AllReadyH.nil
                        refine AllReadyH.cons (o := { dst := some 131, op := Op.buildSlice 40 2 #[(0, Operand.tmp 127), (1, Operand.tmp 130)], type := 40, pos := "law.go:127", after := #[{ on := 9, ground := Ground.data }, { on := 12, ground := Ground.data }], guard := none }) rfl (fun K hK => ?_) ?_
                        · go_simp
                          refine hK.out _ _ ?_ (fun hHeld => ?_)
                          · first | exact cells_at HOf.out | exact cells_at HOe.out | exact cells_at HOc.out | exact cells_at (old_block (below1 _ _) (Array.getElem?_eq_some_iff.1 HOc.out).1 HOc.out) | exact cells_at HOd.out | exact cells_at (old_block (bal HBd.out) (Array.getElem?_eq_some_iff.1 HO1.out).1 HO1.out) | exact cells_at (old_block (bal (bal HBd.out)) (Array.getElem?_eq_some_iff.1 HO1.out).1 HO1.out)
                          clear hK K
                          try simp only [Act.put, List.setIfInBounds_toArray, List.set_cons_zero, List.set_cons_succ]
                          refine wpAnyH_ready (rs := [7]) (by kernel_rfl) (by simp) ?_
                          refine AllReadyH.cons (o := { dst := some 125, op := Op.call { callee := Callee.value (Operand.func 21), args := #[Operand.tmp 118, Operand.tmp 124], argTypes := #[24, 40] }, type := 24, pos := "law.go:127", after := #[{ on := 0, ground := Ground.data }, { on := 6, ground := Ground.data }], guard := none }) rfl (fun K hK => ?_) ?_
                          · go_simp
                            go_at_call 21
                            have hh := T1
                            with_reducible refine HK2.out.mono ?_
                            rintro e v3 ⟨A6, n6, c6, rfl, hn6, hL, hb⟩
                            have HB3 := hid (HV2.out.trans (hb.out.mono HV2.out.size))
                            have HOc := hid (old_block HB3.out (Array.getElem?_eq_some_iff.1 HO1.out).1 HO1.out)
                            have hx3 := cells_at (HS1.out.later HB3.out).box
                            have hx3b := fun o => cells_at ((HS1.out.later HB3.out).later (below1 v3 o)).box
                            have HIn : v1.heap.size ≤ v1.heap.size + 1 := Nat.le_succ _
                            have HZB : Hid (Below v1.heap.size v1 (v3)) := hid (HB3.out)
                            have HZ : Hid (Calls Try.prog 21 #[form N A6 n6 c6, .slice (some ⟨v1.heap.size + 1, 0, none⟩) 2 2] (v3) (PutNew (v3) (fun b => Apart w.heap.size w1.heap.size A' b ∨ v1.heap.size ≤ b) N (putF N (putF N ls [-x, y]) [x, -y]) n6)) := hid (putp_new N (putF N ls [-x, y]) [x, -y] (fun b => Apart w.heap.size w1.heap.size A' b ∨ v1.heap.size ≤ b) v1.heap.size A6 (some ⟨v1.heap.size + 1, 0, none⟩) n6 c6 2 2 (v3) (hL.out) (two_intsP (old_block hb.out (Array.getElem?_eq_some_iff.1 HC2.out).1 HC2.out) (.inr HIn)) ⟨hN0, by omega⟩ (by omega) (by omega) HZB.out.size (fun b h => .inr h))
                            clear hL hb T1 hh
                            try go_wp2_with fail
                            refine hK.out _ _ ?_ (fun hHeld => ?_)
                            · first | exact cells_at HOf.out | exact cells_at HOe.out | exact cells_at HOc.out | exact cells_at (old_block (below1 _ _) (Array.getElem?_eq_some_iff.1 HOc.out).1 HOc.out) | exact cells_at HOd.out | exact cells_at (old_block (bal HBd.out) (Array.getElem?_eq_some_iff.1 HO1.out).1 HO1.out) | exact cells_at (old_block (bal (bal HBd.out)) (Array.getElem?_eq_some_iff.1 HO1.out).1 HO1.out)
                            clear hK K
                            try simp only [Act.put, List.setIfInBounds_toArray, List.set_cons_zero, List.set_cons_succ]
                            refine wpAnyH_ready (rs := [14]) (by kernel_rfl) (by simp) ?_
                            refine AllReadyH.cons (o := { dst := some 132, op := Op.call { callee := Callee.value (Operand.func 21), args := #[Operand.tmp 125, Operand.tmp 131], argTypes := #[24, 40] }, type := 24, pos := "law.go:127", after := #[{ on := 7, ground := Ground.data }, { on := 13, ground := Ground.data }, { on := 7, ground := Ground.chain }], guard := none }) rfl (fun K hK => ?_) ?_
                            · go_simp
                              go_at_call 21
                              with_reducible refine HZ.out.mono ?_
                              rintro e v4 ⟨A7, n7, c7, rfl, hn7, hL, hb⟩
                              have HB4 := hid (HZB.out.trans (hb.out.mono HZB.out.size))
                              have HS4 := hid (HS1.out.later HB4.out)
                              have HOe := hid (old_block HB4.out (Array.getElem?_eq_some_iff.1 HO1.out).1 HO1.out)
                              have hx4 := cells_at HS4.out.box
                              have hf4 := frozen_no HS4.out.box
                              have HP := hid (HS1.out.put (M' := N) (c6 := c7) hL.out HB4.out)
                              have HOf := hid (put2_other (.int .i64 N) (.slice A7 n7 c7) (Ne.symm hkk) HOe.out)
                              clear hL hb
                              try go_wp2_with fail
                              refine hK.out _ _ ?_ (fun hHeld => ?_)
                              · first | exact cells_at HOf.out | exact cells_at HOe.out | exact cells_at HOc.out | exact cells_at (old_block (below1 _ _) (Array.getElem?_eq_some_iff.1 HOc.out).1 HOc.out) | exact cells_at HOd.out | exact cells_at (old_block (bal HBd.out) (Array.getElem?_eq_some_iff.1 HO1.out).1 HO1.out) | exact cells_at (old_block (bal (bal HBd.out)) (Array.getElem?_eq_some_iff.1 HO1.out).1 HO1.out)
                              clear hK K
                              try simp only [Act.put, List.setIfInBounds_toArray, List.set_cons_zero, List.set_cons_succ]
                              refine wpAnyH_ready (rs := [15]) (by kernel_rfl) (by simp) ?_
                              refine AllReadyH.cons (o := { dst := none, op := Op.store 24 (Operand.tmp 5) (Operand.tmp 132), type := 0, pos := "law.go:127", after := #[{ on := 14, ground := Ground.data }, { on := 14, ground := Ground.chain }, { on := 0, ground := Ground.phase }, { on := 1, ground := Ground.phase }, { on := 2, ground := Ground.phase }, { on := 3, ground := Ground.phase }, { on := 4, ground := Ground.phase }, { on := 5, ground := Ground.phase }, { on := 6, ground := Ground.phase }, { on := 7, ground := Ground.phase }, { on := 8, ground := Ground.phase }, { on := 9, ground := Ground.phase }, { on := 10, ground := Ground.phase }, { on := 11, ground := Ground.phase }, { on := 12, ground := Ground.phase }, { on := 13, ground := Ground.phase }, { on := 14, ground := Ground.phase }], guard := none }) rfl (fun K hK => ?_) ?_
                              · go_simp
                                refine hK.out _ _ ?_ (fun hHeld => ?_)
                                · first | exact cells_at HOf.out | exact cells_at HOe.out | exact cells_at HOc.out | exact cells_at (old_block (below1 _ _) (Array.getElem?_eq_some_iff.1 HOc.out).1 HOc.out) | exact cells_at HOd.out | exact cells_at (old_block (bal HBd.out) (Array.getElem?_eq_some_iff.1 HO1.out).1 HO1.out) | exact cells_at (old_block (bal (bal HBd.out)) (Array.getElem?_eq_some_iff.1 HO1.out).1 HO1.out)
                                clear hK K
                                try simp only [Act.put, List.setIfInBounds_toArray, List.set_cons_zero, List.set_cons_succ]
                                refine wpAnyH_done (by kernel_rfl) ?_ _
                                refine NoPanic.normal ?_
                                go_wp2_with fail
                                go_meet
                                exact hid (swt_mk HP.out (putF_short (putF_short HSh.out (by simp)) (by simp)) (by omega) (by have := putF_len N ls [-x, y]; have := putF_len N (putF N ls [-x, y]) [x, -y]; have := hlen1.out; omega) HOf.out)
                              exact AllReadyH.nil
                            exact AllReadyH.nil
                          exact AllReadyH.nil
                        exact AllReadyH.nil
                      refine AllReadyH.cons (o := { dst := some 131, op := Op.buildSlice 40 2 #[(0, Operand.tmp 127), (1, Operand.tmp 130)], type := 40, pos := "law.go:127", after := #[{ on := 9, ground := Ground.data }, { on := 12, ground := Ground.data }], guard := none }) rfl (fun K hK => ?_) ?_
                      · go_simp
                        refine hK.out _ _ ?_ (fun hHeld => ?_)
                        · first | exact cells_at HOf.out | exact cells_at HOe.out | exact cells_at HOc.out | exact cells_at (old_block (below1 _ _) (Array.getElem?_eq_some_iff.1 HOc.out).1 HOc.out) | exact cells_at HOd.out | exact cells_at (old_block (bal HBd.out) (Array.getElem?_eq_some_iff.1 HO1.out).1 HO1.out) | exact cells_at (old_block (bal (bal HBd.out)) (Array.getElem?_eq_some_iff.1 HO1.out).1 HO1.out)
                        clear hK K
                        try simp only [Act.put, List.setIfInBounds_toArray, List.set_cons_zero, List.set_cons_succ]
                        refine wpAnyH_ready (rs := [0]) (by kernel_rfl) (by simp) ?_
                        refine AllReadyH.cons (o := { dst := some 118, op := Op.load 24 (Operand.tmp 5), type := 24, pos := "law.go:127", after := #[], guard := none }) rfl (fun K hK => ?_) ?_
                        · go_simp
                          refine hK.out _ _ ?_ (fun hHeld => ?_)
                          · first | exact cells_at HOf.out | exact cells_at HOe.out | exact cells_at HOc.out | exact cells_at (old_block (below1 _ _) (Array.getElem?_eq_some_iff.1 HOc.out).1 HOc.out) | exact cells_at HOd.out | exact cells_at (old_block (bal HBd.out) (Array.getElem?_eq_some_iff.1 HO1.out).1 HO1.out) | exact cells_at (old_block (bal (bal HBd.out)) (Array.getElem?_eq_some_iff.1 HO1.out).1 HO1.out)
                          clear hK K
                          try simp only [Act.put, List.setIfInBounds_toArray, List.set_cons_zero, List.set_cons_succ]
                          refine wpAnyH_ready (rs := [7]) (by kernel_rfl) (by simp) ?_
                          refine AllReadyH.cons (o := { dst := some 125, op := Op.call { callee := Callee.value (Operand.func 21), args := #[Operand.tmp 118, Operand.tmp 124], argTypes := #[24, 40] }, type := 24, pos := "law.go:127", after := #[{ on := 0, ground := Ground.data }, { on := 6, ground := Ground.data }], guard := none }) rfl (fun K hK => ?_) ?_
                          · go_simp
                            go_at_call 21
                            have hh := T1
                            with_reducible refine HK2.out.mono ?_
                            rintro e v3 ⟨A6, n6, c6, rfl, hn6, hL, hb⟩
                            have HB3 := hid (HV2.out.trans (hb.out.mono HV2.out.size))
                            have HOc := hid (old_block HB3.out (Array.getElem?_eq_some_iff.1 HO1.out).1 HO1.out)
                            have hx3 := cells_at (HS1.out.later HB3.out).box
                            have hx3b := fun o => cells_at ((HS1.out.later HB3.out).later (below1 v3 o)).box
                            have HIn : v1.heap.size ≤ v1.heap.size + 1 := Nat.le_succ _
                            have HZB : Hid (Below v1.heap.size v1 (v3)) := hid (HB3.out)
                            have HZ : Hid (Calls Try.prog 21 #[form N A6 n6 c6, .slice (some ⟨v1.heap.size + 1, 0, none⟩) 2 2] (v3) (PutNew (v3) (fun b => Apart w.heap.size w1.heap.size A' b ∨ v1.heap.size ≤ b) N (putF N (putF N ls [-x, y]) [x, -y]) n6)) := hid (putp_new N (putF N ls [-x, y]) [x, -y] (fun b => Apart w.heap.size w1.heap.size A' b ∨ v1.heap.size ≤ b) v1.heap.size A6 (some ⟨v1.heap.size + 1, 0, none⟩) n6 c6 2 2 (v3) (hL.out) (two_intsP (old_block hb.out (Array.getElem?_eq_some_iff.1 HC2.out).1 HC2.out) (.inr HIn)) ⟨hN0, by omega⟩ (by omega) (by omega) HZB.out.size (fun b h => .inr h))
                            clear hL hb T1 hh
                            try go_wp2_with fail
                            refine hK.out _ _ ?_ (fun hHeld => ?_)
                            · first | exact cells_at HOf.out | exact cells_at HOe.out | exact cells_at HOc.out | exact cells_at (old_block (below1 _ _) (Array.getElem?_eq_some_iff.1 HOc.out).1 HOc.out) | exact cells_at HOd.out | exact cells_at (old_block (bal HBd.out) (Array.getElem?_eq_some_iff.1 HO1.out).1 HO1.out) | exact cells_at (old_block (bal (bal HBd.out)) (Array.getElem?_eq_some_iff.1 HO1.out).1 HO1.out)
                            clear hK K
                            try simp only [Act.put, List.setIfInBounds_toArray, List.set_cons_zero, List.set_cons_succ]
                            refine wpAnyH_ready (rs := [14]) (by kernel_rfl) (by simp) ?_
                            refine AllReadyH.cons (o := { dst := some 132, op := Op.call { callee := Callee.value (Operand.func 21), args := #[Operand.tmp 125, Operand.tmp 131], argTypes := #[24, 40] }, type := 24, pos := "law.go:127", after := #[{ on := 7, ground := Ground.data }, { on := 13, ground := Ground.data }, { on := 7, ground := Ground.chain }], guard := none }) rfl (fun K hK => ?_) ?_
                            · go_simp
                              go_at_call 21
                              with_reducible refine HZ.out.mono ?_
                              rintro e v4 ⟨A7, n7, c7, rfl, hn7, hL, hb⟩
                              have HB4 := hid (HZB.out.trans (hb.out.mono HZB.out.size))
                              have HS4 := hid (HS1.out.later HB4.out)
                              have HOe := hid (old_block HB4.out (Array.getElem?_eq_some_iff.1 HO1.out).1 HO1.out)
                              have hx4 := cells_at HS4.out.box
                              have hf4 := frozen_no HS4.out.box
                              have HP := hid (HS1.out.put (M' := N) (c6 := c7) hL.out HB4.out)
                              have HOf := hid (put2_other (.int .i64 N) (.slice A7 n7 c7) (Ne.symm hkk) HOe.out)
                              clear hL hb
                              try go_wp2_with fail
                              refine hK.out _ _ ?_ (fun hHeld => ?_)
                              · first | exact cells_at HOf.out | exact cells_at HOe.out | exact cells_at HOc.out | exact cells_at (old_block (below1 _ _) (Array.getElem?_eq_some_iff.1 HOc.out).1 HOc.out) | exact cells_at HOd.out | exact cells_at (old_block (bal HBd.out) (Array.getElem?_eq_some_iff.1 HO1.out).1 HO1.out) | exact cells_at (old_block (bal (bal HBd.out)) (Array.getElem?_eq_some_iff.1 HO1.out).1 HO1.out)
                              clear hK K
                              try simp only [Act.put, List.setIfInBounds_toArray, List.set_cons_zero, List.set_cons_succ]
                              refine wpAnyH_ready (rs := [15]) (by kernel_rfl) (by simp) ?_
                              refine AllReadyH.cons (o := { dst := none, op := Op.store 24 (Operand.tmp 5) (Operand.tmp 132), type := 0, pos := "law.go:127", after := #[{ on := 14, ground := Ground.data }, { on := 14, ground := Ground.chain }, { on := 0, ground := Ground.phase }, { on := 1, ground := Ground.phase }, { on := 2, ground := Ground.phase }, { on := 3, ground := Ground.phase }, { on := 4, ground := Ground.phase }, { on := 5, ground := Ground.phase }, { on := 6, ground := Ground.phase }, { on := 7, ground := Ground.phase }, { on := 8, ground := Ground.phase }, { on := 9, ground := Ground.phase }, { on := 10, ground := Ground.phase }, { on := 11, ground := Ground.phase }, { on := 12, ground := Ground.phase }, { on := 13, ground := Ground.phase }, { on := 14, ground := Ground.phase }], guard := none }) rfl (fun K hK => ?_) ?_
                              · go_simp
                                refine hK.out _ _ ?_ (fun hHeld => ?_)
                                · first | exact cells_at HOf.out | exact cells_at HOe.out | exact cells_at HOc.out | exact cells_at (old_block (below1 _ _) (Array.getElem?_eq_some_iff.1 HOc.out).1 HOc.out) | exact cells_at HOd.out | exact cells_at (old_block (bal HBd.out) (Array.getElem?_eq_some_iff.1 HO1.out).1 HO1.out) | exact cells_at (old_block (bal (bal HBd.out)) (Array.getElem?_eq_some_iff.1 HO1.out).1 HO1.out)
                                clear hK K
                                try simp only [Act.put, List.setIfInBounds_toArray, List.set_cons_zero, List.set_cons_succ]
                                refine wpAnyH_done (by kernel_rfl) ?_ _
                                refine NoPanic.normal ?_
                                go_wp2_with fail
                                go_meet
                                exact hid (swt_mk HP.out (putF_short (putF_short HSh.out (by simp)) (by simp)) (by omega) (by have := putF_len N ls [-x, y]; have := putF_len N (putF N ls [-x, y]) [x, -y]; have := hlen1.out; omega) HOf.out)
                              exact AllReadyH.nil
                            exact AllReadyH.nil
                          exact AllReadyH.nil
                        exact AllReadyH.nil
                      exact AllReadyH.nil
                    refine AllReadyH.cons (o := { dst := some 131, op := Op.buildSlice 40 2 #[(0, Operand.tmp 127), (1, Operand.tmp 130)], type := 40, pos := "law.go:127", after := #[{ on := 9, ground := Ground.data }, { on := 12, ground := Ground.data }], guard := none }) rfl (fun K hK => ?_) ?_
                    · go_simp
                      refine hK.out _ _ ?_ (fun hHeld => ?_)
                      · first | exact cells_at HOf.out | exact cells_at HOe.out | exact cells_at HOc.out | exact cells_at (old_block (below1 _ _) (Array.getElem?_eq_some_iff.1 HOc.out).1 HOc.out) | exact cells_at HOd.out | exact cells_at (old_block (bal HBd.out) (Array.getElem?_eq_some_iff.1 HO1.out).1 HO1.out) | exact cells_at (old_block (bal (bal HBd.out)) (Array.getElem?_eq_some_iff.1 HO1.out).1 HO1.out)
                      clear hK K
                      try simp only [Act.put, List.setIfInBounds_toArray, List.set_cons_zero, List.set_cons_succ]
                      refine wpAnyH_ready (rs := [0, 6]) (by kernel_rfl) (by simp) ?_
                      refine AllReadyH.cons (o := { dst := some 118, op := Op.load 24 (Operand.tmp 5), type := 24, pos := "law.go:127", after := #[], guard := none }) rfl (fun K hK => ?_) ?_
                      · go_simp
                        refine hK.out _ _ ?_ (fun hHeld => ?_)
                        · first | exact cells_at HOf.out | exact cells_at HOe.out | exact cells_at HOc.out | exact cells_at (old_block (below1 _ _) (Array.getElem?_eq_some_iff.1 HOc.out).1 HOc.out) | exact cells_at HOd.out | exact cells_at (old_block (bal HBd.out) (Array.getElem?_eq_some_iff.1 HO1.out).1 HO1.out) | exact cells_at (old_block (bal (bal HBd.out)) (Array.getElem?_eq_some_iff.1 HO1.out).1 HO1.out)
                        clear hK K
                        try simp only [Act.put, List.setIfInBounds_toArray, List.set_cons_zero, List.set_cons_succ]
                        refine wpAnyH_ready (rs := [6]) (by kernel_rfl) (by simp) ?_
                        refine AllReadyH.cons (o := { dst := some 124, op := Op.buildSlice 40 2 #[(0, Operand.tmp 121), (1, Operand.tmp 123)], type := 40, pos := "law.go:127", after := #[{ on := 3, ground := Ground.data }, { on := 5, ground := Ground.data }], guard := none }) rfl (fun K hK => ?_) ?_
                        · go_simp
                          refine hK.out _ _ ?_ (fun hHeld => ?_)
                          · first | exact cells_at HOf.out | exact cells_at HOe.out | exact cells_at HOc.out | exact cells_at (old_block (below1 _ _) (Array.getElem?_eq_some_iff.1 HOc.out).1 HOc.out) | exact cells_at HOd.out | exact cells_at (old_block (bal HBd.out) (Array.getElem?_eq_some_iff.1 HO1.out).1 HO1.out) | exact cells_at (old_block (bal (bal HBd.out)) (Array.getElem?_eq_some_iff.1 HO1.out).1 HO1.out)
                          clear hK K
                          try simp only [Act.put, List.setIfInBounds_toArray, List.set_cons_zero, List.set_cons_succ]
                          refine wpAnyH_ready (rs := [7]) (by kernel_rfl) (by simp) ?_
                          refine AllReadyH.cons (o := { dst := some 125, op := Op.call { callee := Callee.value (Operand.func 21), args := #[Operand.tmp 118, Operand.tmp 124], argTypes := #[24, 40] }, type := 24, pos := "law.go:127", after := #[{ on := 0, ground := Ground.data }, { on := 6, ground := Ground.data }], guard := none }) rfl (fun K hK => ?_) ?_
                          · go_simp
                            go_at_call 21
                            have hh := T1
                            with_reducible refine HK3.out.mono ?_
                            rintro e v3 ⟨A6, n6, c6, rfl, hn6, hL, hb⟩
                            have HB3 := hid (HV3.out.trans (hb.out.mono HV3.out.size))
                            have HOc := hid (old_block HB3.out (Array.getElem?_eq_some_iff.1 HO1.out).1 HO1.out)
                            have hx3 := cells_at (HS1.out.later HB3.out).box
                            have hx3b := fun o => cells_at ((HS1.out.later HB3.out).later (below1 v3 o)).box
                            have HIn : v1.heap.size ≤ v1.heap.size := Nat.le_refl _
                            have HZB : Hid (Below v1.heap.size v1 (v3)) := hid (HB3.out)
                            have HZ : Hid (Calls Try.prog 21 #[form N A6 n6 c6, .slice (some ⟨v1.heap.size, 0, none⟩) 2 2] (v3) (PutNew (v3) (fun b => Apart w.heap.size w1.heap.size A' b ∨ v1.heap.size ≤ b) N (putF N (putF N ls [-x, y]) [x, -y]) n6)) := hid (putp_new N (putF N ls [-x, y]) [x, -y] (fun b => Apart w.heap.size w1.heap.size A' b ∨ v1.heap.size ≤ b) v1.heap.size A6 (some ⟨v1.heap.size, 0, none⟩) n6 c6 2 2 (v3) (hL.out) (two_intsP (old_block hb.out (Array.getElem?_eq_some_iff.1 HC3.out).1 HC3.out) (.inr HIn)) ⟨hN0, by omega⟩ (by omega) (by omega) HZB.out.size (fun b h => .inr h))
                            clear hL hb T1 hh
                            try go_wp2_with fail
                            refine hK.out _ _ ?_ (fun hHeld => ?_)
                            · first | exact cells_at HOf.out | exact cells_at HOe.out | exact cells_at HOc.out | exact cells_at (old_block (below1 _ _) (Array.getElem?_eq_some_iff.1 HOc.out).1 HOc.out) | exact cells_at HOd.out | exact cells_at (old_block (bal HBd.out) (Array.getElem?_eq_some_iff.1 HO1.out).1 HO1.out) | exact cells_at (old_block (bal (bal HBd.out)) (Array.getElem?_eq_some_iff.1 HO1.out).1 HO1.out)
                            clear hK K
                            try simp only [Act.put, List.setIfInBounds_toArray, List.set_cons_zero, List.set_cons_succ]
                            refine wpAnyH_ready (rs := [14]) (by kernel_rfl) (by simp) ?_
                            refine AllReadyH.cons (o := { dst := some 132, op := Op.call { callee := Callee.value (Operand.func 21), args := #[Operand.tmp 125, Operand.tmp 131], argTypes := #[24, 40] }, type := 24, pos := "law.go:127", after := #[{ on := 7, ground := Ground.data }, { on := 13, ground := Ground.data }, { on := 7, ground := Ground.chain }], guard := none }) rfl (fun K hK => ?_) ?_
                            · go_simp
                              go_at_call 21
                              with_reducible refine HZ.out.mono ?_
                              rintro e v4 ⟨A7, n7, c7, rfl, hn7, hL, hb⟩
                              have HB4 := hid (HZB.out.trans (hb.out.mono HZB.out.size))
                              have HS4 := hid (HS1.out.later HB4.out)
                              have HOe := hid (old_block HB4.out (Array.getElem?_eq_some_iff.1 HO1.out).1 HO1.out)
                              have hx4 := cells_at HS4.out.box
                              have hf4 := frozen_no HS4.out.box
                              have HP := hid (HS1.out.put (M' := N) (c6 := c7) hL.out HB4.out)
                              have HOf := hid (put2_other (.int .i64 N) (.slice A7 n7 c7) (Ne.symm hkk) HOe.out)
                              clear hL hb
                              try go_wp2_with fail
                              refine hK.out _ _ ?_ (fun hHeld => ?_)
                              · first | exact cells_at HOf.out | exact cells_at HOe.out | exact cells_at HOc.out | exact cells_at (old_block (below1 _ _) (Array.getElem?_eq_some_iff.1 HOc.out).1 HOc.out) | exact cells_at HOd.out | exact cells_at (old_block (bal HBd.out) (Array.getElem?_eq_some_iff.1 HO1.out).1 HO1.out) | exact cells_at (old_block (bal (bal HBd.out)) (Array.getElem?_eq_some_iff.1 HO1.out).1 HO1.out)
                              clear hK K
                              try simp only [Act.put, List.setIfInBounds_toArray, List.set_cons_zero, List.set_cons_succ]
                              refine wpAnyH_ready (rs := [15]) (by kernel_rfl) (by simp) ?_
                              refine AllReadyH.cons (o := { dst := none, op := Op.store 24 (Operand.tmp 5) (Operand.tmp 132), type := 0, pos := "law.go:127", after := #[{ on := 14, ground := Ground.data }, { on := 14, ground := Ground.chain }, { on := 0, ground := Ground.phase }, { on := 1, ground := Ground.phase }, { on := 2, ground := Ground.phase }, { on := 3, ground := Ground.phase }, { on := 4, ground := Ground.phase }, { on := 5, ground := Ground.phase }, { on := 6, ground := Ground.phase }, { on := 7, ground := Ground.phase }, { on := 8, ground := Ground.phase }, { on := 9, ground := Ground.phase }, { on := 10, ground := Ground.phase }, { on := 11, ground := Ground.phase }, { on := 12, ground := Ground.phase }, { on := 13, ground := Ground.phase }, { on := 14, ground := Ground.phase }], guard := none }) rfl (fun K hK => ?_) ?_
                              · go_simp
                                refine hK.out _ _ ?_ (fun hHeld => ?_)
                                · first | exact cells_at HOf.out | exact cells_at HOe.out | exact cells_at HOc.out | exact cells_at (old_block (below1 _ _) (Array.getElem?_eq_some_iff.1 HOc.out).1 HOc.out) | exact cells_at HOd.out | exact cells_at (old_block (bal HBd.out) (Array.getElem?_eq_some_iff.1 HO1.out).1 HO1.out) | exact cells_at (old_block (bal (bal HBd.out)) (Array.getElem?_eq_some_iff.1 HO1.out).1 HO1.out)
                                clear hK K
                                try simp only [Act.put, List.setIfInBounds_toArray, List.set_cons_zero, List.set_cons_succ]
                                refine wpAnyH_done (by kernel_rfl) ?_ _
                                refine NoPanic.normal ?_
                                go_wp2_with fail
                                go_meet
                                exact hid (swt_mk HP.out (putF_short (putF_short HSh.out (by simp)) (by simp)) (by omega) (by have := putF_len N ls [-x, y]; have := putF_len N (putF N ls [-x, y]) [x, -y]; have := hlen1.out; omega) HOf.out)
                              exact AllReadyH.nil
                            exact AllReadyH.nil
                          exact AllReadyH.nil
                        exact AllReadyH.nil
                      refine AllReadyH.cons (o := { dst := some 124, op := Op.buildSlice 40 2 #[(0, Operand.tmp 121), (1, Operand.tmp 123)], type := 40, pos := "law.go:127", after := #[{ on := 3, ground := Ground.data }, { on := 5, ground := Ground.data }], guard := none }) rfl (fun K hK => ?_) ?_
                      · go_simp
                        refine hK.out _ _ ?_ (fun hHeld => ?_)
                        · first | exact cells_at HOf.out | exact cells_at HOe.out | exact cells_at HOc.out | exact cells_at (old_block (below1 _ _) (Array.getElem?_eq_some_iff.1 HOc.out).1 HOc.out) | exact cells_at HOd.out | exact cells_at (old_block (bal HBd.out) (Array.getElem?_eq_some_iff.1 HO1.out).1 HO1.out) | exact cells_at (old_block (bal (bal HBd.out)) (Array.getElem?_eq_some_iff.1 HO1.out).1 HO1.out)
                        clear hK K
                        try simp only [Act.put, List.setIfInBounds_toArray, List.set_cons_zero, List.set_cons_succ]
                        refine wpAnyH_ready (rs := [0]) (by kernel_rfl) (by simp) ?_
                        refine AllReadyH.cons (o := { dst := some 118, op := Op.load 24 (Operand.tmp 5), type := 24, pos := "law.go:127", after := #[], guard := none }) rfl (fun K hK => ?_) ?_
                        · go_simp
                          refine hK.out _ _ ?_ (fun hHeld => ?_)
                          · first | exact cells_at HOf.out | exact cells_at HOe.out | exact cells_at HOc.out | exact cells_at (old_block (below1 _ _) (Array.getElem?_eq_some_iff.1 HOc.out).1 HOc.out) | exact cells_at HOd.out | exact cells_at (old_block (bal HBd.out) (Array.getElem?_eq_some_iff.1 HO1.out).1 HO1.out) | exact cells_at (old_block (bal (bal HBd.out)) (Array.getElem?_eq_some_iff.1 HO1.out).1 HO1.out)
                          clear hK K
                          try simp only [Act.put, List.setIfInBounds_toArray, List.set_cons_zero, List.set_cons_succ]
                          refine wpAnyH_ready (rs := [7]) (by kernel_rfl) (by simp) ?_
                          refine AllReadyH.cons (o := { dst := some 125, op := Op.call { callee := Callee.value (Operand.func 21), args := #[Operand.tmp 118, Operand.tmp 124], argTypes := #[24, 40] }, type := 24, pos := "law.go:127", after := #[{ on := 0, ground := Ground.data }, { on := 6, ground := Ground.data }], guard := none }) rfl (fun K hK => ?_) ?_
                          · go_simp
                            go_at_call 21
                            have hh := T1
                            with_reducible refine HK3.out.mono ?_
                            rintro e v3 ⟨A6, n6, c6, rfl, hn6, hL, hb⟩
                            have HB3 := hid (HV3.out.trans (hb.out.mono HV3.out.size))
                            have HOc := hid (old_block HB3.out (Array.getElem?_eq_some_iff.1 HO1.out).1 HO1.out)
                            have hx3 := cells_at (HS1.out.later HB3.out).box
                            have hx3b := fun o => cells_at ((HS1.out.later HB3.out).later (below1 v3 o)).box
                            have HIn : v1.heap.size ≤ v1.heap.size := Nat.le_refl _
                            have HZB : Hid (Below v1.heap.size v1 (v3)) := hid (HB3.out)
                            have HZ : Hid (Calls Try.prog 21 #[form N A6 n6 c6, .slice (some ⟨v1.heap.size, 0, none⟩) 2 2] (v3) (PutNew (v3) (fun b => Apart w.heap.size w1.heap.size A' b ∨ v1.heap.size ≤ b) N (putF N (putF N ls [-x, y]) [x, -y]) n6)) := hid (putp_new N (putF N ls [-x, y]) [x, -y] (fun b => Apart w.heap.size w1.heap.size A' b ∨ v1.heap.size ≤ b) v1.heap.size A6 (some ⟨v1.heap.size, 0, none⟩) n6 c6 2 2 (v3) (hL.out) (two_intsP (old_block hb.out (Array.getElem?_eq_some_iff.1 HC3.out).1 HC3.out) (.inr HIn)) ⟨hN0, by omega⟩ (by omega) (by omega) HZB.out.size (fun b h => .inr h))
                            clear hL hb T1 hh
                            try go_wp2_with fail
                            refine hK.out _ _ ?_ (fun hHeld => ?_)
                            · first | exact cells_at HOf.out | exact cells_at HOe.out | exact cells_at HOc.out | exact cells_at (old_block (below1 _ _) (Array.getElem?_eq_some_iff.1 HOc.out).1 HOc.out) | exact cells_at HOd.out | exact cells_at (old_block (bal HBd.out) (Array.getElem?_eq_some_iff.1 HO1.out).1 HO1.out) | exact cells_at (old_block (bal (bal HBd.out)) (Array.getElem?_eq_some_iff.1 HO1.out).1 HO1.out)
                            clear hK K
                            try simp only [Act.put, List.setIfInBounds_toArray, List.set_cons_zero, List.set_cons_succ]
                            refine wpAnyH_ready (rs := [14]) (by kernel_rfl) (by simp) ?_
                            refine AllReadyH.cons (o := { dst := some 132, op := Op.call { callee := Callee.value (Operand.func 21), args := #[Operand.tmp 125, Operand.tmp 131], argTypes := #[24, 40] }, type := 24, pos := "law.go:127", after := #[{ on := 7, ground := Ground.data }, { on := 13, ground := Ground.data }, { on := 7, ground := Ground.chain }], guard := none }) rfl (fun K hK => ?_) ?_
                            · go_simp
                              go_at_call 21
                              with_reducible refine HZ.out.mono ?_
                              rintro e v4 ⟨A7, n7, c7, rfl, hn7, hL, hb⟩
                              have HB4 := hid (HZB.out.trans (hb.out.mono HZB.out.size))
                              have HS4 := hid (HS1.out.later HB4.out)
                              have HOe := hid (old_block HB4.out (Array.getElem?_eq_some_iff.1 HO1.out).1 HO1.out)
                              have hx4 := cells_at HS4.out.box
                              have hf4 := frozen_no HS4.out.box
                              have HP := hid (HS1.out.put (M' := N) (c6 := c7) hL.out HB4.out)
                              have HOf := hid (put2_other (.int .i64 N) (.slice A7 n7 c7) (Ne.symm hkk) HOe.out)
                              clear hL hb
                              try go_wp2_with fail
                              refine hK.out _ _ ?_ (fun hHeld => ?_)
                              · first | exact cells_at HOf.out | exact cells_at HOe.out | exact cells_at HOc.out | exact cells_at (old_block (below1 _ _) (Array.getElem?_eq_some_iff.1 HOc.out).1 HOc.out) | exact cells_at HOd.out | exact cells_at (old_block (bal HBd.out) (Array.getElem?_eq_some_iff.1 HO1.out).1 HO1.out) | exact cells_at (old_block (bal (bal HBd.out)) (Array.getElem?_eq_some_iff.1 HO1.out).1 HO1.out)
                              clear hK K
                              try simp only [Act.put, List.setIfInBounds_toArray, List.set_cons_zero, List.set_cons_succ]
                              refine wpAnyH_ready (rs := [15]) (by kernel_rfl) (by simp) ?_
                              refine AllReadyH.cons (o := { dst := none, op := Op.store 24 (Operand.tmp 5) (Operand.tmp 132), type := 0, pos := "law.go:127", after := #[{ on := 14, ground := Ground.data }, { on := 14, ground := Ground.chain }, { on := 0, ground := Ground.phase }, { on := 1, ground := Ground.phase }, { on := 2, ground := Ground.phase }, { on := 3, ground := Ground.phase }, { on := 4, ground := Ground.phase }, { on := 5, ground := Ground.phase }, { on := 6, ground := Ground.phase }, { on := 7, ground := Ground.phase }, { on := 8, ground := Ground.phase }, { on := 9, ground := Ground.phase }, { on := 10, ground := Ground.phase }, { on := 11, ground := Ground.phase }, { on := 12, ground := Ground.phase }, { on := 13, ground := Ground.phase }, { on := 14, ground := Ground.phase }], guard := none }) rfl (fun K hK => ?_) ?_
                              · go_simp
                                refine hK.out _ _ ?_ (fun hHeld => ?_)
                                · first | exact cells_at HOf.out | exact cells_at HOe.out | exact cells_at HOc.out | exact cells_at (old_block (below1 _ _) (Array.getElem?_eq_some_iff.1 HOc.out).1 HOc.out) | exact cells_at HOd.out | exact cells_at (old_block (bal HBd.out) (Array.getElem?_eq_some_iff.1 HO1.out).1 HO1.out) | exact cells_at (old_block (bal (bal HBd.out)) (Array.getElem?_eq_some_iff.1 HO1.out).1 HO1.out)
                                clear hK K
                                try simp only [Act.put, List.setIfInBounds_toArray, List.set_cons_zero, List.set_cons_succ]
                                refine wpAnyH_done (by kernel_rfl) ?_ _
                                refine NoPanic.normal ?_
                                go_wp2_with fail
                                go_meet
                                exact hid (swt_mk HP.out (putF_short (putF_short HSh.out (by simp)) (by simp)) (by omega) (by have := putF_len N ls [-x, y]; have := putF_len N (putF N ls [-x, y]) [x, -y]; have := hlen1.out; omega) HOf.out)
                              exact AllReadyH.nil
                            exact AllReadyH.nil
                          exact AllReadyH.nil
                        exact AllReadyH.nil
                      exact AllReadyH.nil
                    exact AllReadyH.nil
                  · go_wp2_with fail
                    go_meet
                    exact hid (swt_mk HS.out HSh.out (by omega) (by have := hlen1.out; omega) HO.out)
          case rest =>
            obtain ⟨⟨N, A, m, c, A2, n2, c2, ls, hS, hsh, hN, hm, hm2⟩, hO⟩ := hcut.out
            have HT0 := hid (hS.later (below_drew1 wc))
            have HSh := hid hsh
            have ho := cells_at hO
            have hlen1 := hid hS.bld.row.len
            have hlen2 := hid hS.want.len
            have HSm := hid (fun W (A5 : Option Addr) (c5 : Nat) (q1 : Lists W W.heap.size A5 n2 ls) (q2 : Lists W W.heap.size A2 n2 ls) => same_t N ls A5 A2 n2 c5 c2 W.heap.size W (Nat.le_refl _) q1 q2 (by omega) hsh)
            have hx0 := cells_at hS.box
            clear hS hsh hO hcut HO HR1
            go_wp2_with (first
              | (go_at_call 20; refine (clause_nil _ _ _ _).mono ?_; rintro e w4 ⟨rfl, hw⟩; obtain rfl := hw.symm; clear hw)
              | (go_at_call 22; refine (imply_nil _ _ _ _ _ _ _).mono ?_; rintro e w4 ⟨rfl, hw⟩; obtain rfl := hw.symm; clear hw)
              | (go_at_call 23; refine (bsame_nil _ _ _).mono ?_; rintro e w4 ⟨rfl, hw⟩; obtain rfl := hw.symm; clear hw))
            go_region_held3 (fun W => Hid (BS w W w.heap.size w1.heap.size N A m c ls N A2 n2 c2 ls) ∧ ∀ i, W.cell? ⟨w1.heap.size, i, none⟩ = (#[.int .i64 N, .slice A2 n2 c2] : Array Value)[i]?)
              (first | exact ⟨HT0, cells_at HT0.out.box⟩ | exact ⟨HT1, cells_at HT1.out.box⟩ | exact ⟨HT2, cells_at HT2.out.box⟩)
              (first
                | (go_at_call 24; have tok := HT0; clear HT0; go_must (refine (formula_i w.heap.size w.heap.size m c N A ls _ tok.out.bld (by omega) HSh.out).mono ?_); rintro e v1 ⟨A5, n5, c5, rfl, HO5, hb⟩; have HT1 := hid (tok.out.later hb.out); have hn5 : n2 = n5 := (by have h1 := HO5.out.len; have h2 := hlen2.out; omega); subst hn5; have HL5 := hid HO5.out.lists; have HL6 := hid HT1.out.want.lists; clear hb tok HO5)
                | (go_at_call 14; have tok := HT1; clear HT1; go_must (refine (HSm.out _ _ _ HL5.out HL6.out).mono ?_); rintro e v2 ⟨rfl, hb⟩; have HT2 := hid (tok.out.later hb.out); clear hb tok))
            have HR2 : Hid (Rnd w v2 w.heap.size w1.heap.size (i + 1)) := hid ⟨N, A, m, c, A2, _, c2, ls, HT2.out, HSh.out, hN, hm, hm2⟩
            clear HT2 HL5
            go_wp2
            go_roundg (n - (i + 1))
            case measure => omega
            case rel => exact ⟨i + 1, by omega, rfl, rfl, HR2⟩
    · have hlt' : ¬ (i : Int) < (n : Int) := by omega
      obtain rfl : i = n := by omega
      have HBel : Hid (Below w.heap.size w W0) := hid (by obtain ⟨N, A, n, c, A2, n2, c2, ls, h, -⟩ := HR.out; exact h.below)
      go_wp2_with (first
        | (go_at_call 19; refine (var_nil _).mono ?_; rintro e w4 ⟨rfl, hw⟩; obtain rfl := hw.symm; clear hw)
        | (go_at_call 24; refine (formula_nil _).mono ?_; rintro e w5 ⟨A5, n5, c5, rfl, HO5, HB5⟩; have hn5 : n5 = 0 := (by have h1 := HO5.out.len; simp at h1; omega); subst hn5)
        | (go_at_call 14; refine (same_t 0 [] A5 none 0 c5 0 _ _ (Nat.le_refl _) HO5.out.lists (ListsP.nil _ (fun _ => True)).lists (by omega) (fun k xs hx => by simp at hx)).mono ?_; rintro e w6 ⟨rfl, HB6⟩)
        | (go_at_call 8; refine (alive_i _).mono ?_; rintro e w9 ⟨rfl, HB9⟩))
      go_ret
      exact ⟨rfl, hid (after (after (after HBel.out HB5.out HBel.out.size) HB6.out (Nat.le_trans HBel.out.size HB5.out.size)) HB9.out (Nat.le_trans (Nat.le_trans HBel.out.size HB5.out.size) HB6.out.size))⟩
set_option maxRecDepth 100000 in
theorem builds_big (A : Option Addr) (n cap : Nat) (w : World) (hn : 40 < n) :
    Calls Try.prog 4 #[.slice A n cap] w fun e w' => e = .returned (.bool true) ∧ Hid (Below w.heap.size w w') := by
  have hn' : 40 < (n : Int) := by omega
  clear hn
  go_enter Try.func4, Try.ntmps4
  go_wp2_with (go_at_call 8; refine (alive_i _).mono ?_; rintro e w9 ⟨rfl, HB9⟩)
  go_ret
  exact ⟨rfl, HB9⟩
theorem builds_i (A : Option Addr) (n cap : Nat) (w : World) (h : ∀ i, i < n → OpAt w A i) :
    Calls Try.prog 4 #[.slice A n cap] w fun e w' => e = .returned (.bool true) ∧ Hid (Below w.heap.size w w') := by
  by_cases hn : n ≤ 40
  · exact builds_small A n cap w h hn
  · exact builds_big A n cap w (by omega)
end Go.Proofs.Ytkmcdbkdlalhdaa
