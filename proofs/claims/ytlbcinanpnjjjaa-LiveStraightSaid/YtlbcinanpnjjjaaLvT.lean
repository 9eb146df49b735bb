/- LiveStraight: straight code of sums. No conditions. -/
import Derived.Test.YtlbcinanpnjjjaaLvS
import Derived.Deep.QuietTactic
import Derived.BigQuiet
import Derived.OwnWalk
import Derived.StillTailTactics
import Derived.Deep.RegionLaw
import Derived.Laws.Cover1
namespace Go.Proofs.Ytlbcinanpnjjjaa
open Go.RowKit Go.Maps
set_option linter.unusedVariables false
set_option linter.unusedSimpArgs false
theorem BlM.put {W : World} {g n : Nat} {m m' : Met} (h : BlM W g n m) (k : Nat) (b : Bool) (he : ∀ y, y < n → m' y = if y = k then b else m y) : BlM (W.setCell ⟨g, k, none⟩ (.bool b)) g n m' := by
  obtain ⟨cs, h1, h2, h3⟩ := h
  refine ⟨_, set_here h1 k _, by simp [h2], fun i hi => ?_⟩
  rw [Array.getElem?_setIfInBounds, he i hi]
  by_cases hik : k = i
  · subst hik
    simp [h2, hi]
  · rw [if_neg hik, h3 i hi, if_neg (fun e => hik e.symm)]
theorem BlM.notInts {W : World} {g n b o : Nat} {m : Met} {y : Int} (h : BlM W g n m) (hc : W.cell? ⟨b, o, none⟩ = some (.int .i64 y)) : b ≠ g := by
  rintro rfl
  obtain ⟨cs, h1, h2, h3⟩ := h
  rw [cells_at h1 o] at hc
  have hl := (Array.getElem?_eq_some_iff.1 hc).1
  rw [h3 o (by omega)] at hc
  cases hc
theorem cells_news {W : World} {g t : Nat} {cs : Array Value} {xs : List Value} (h : W.heap[g]? = some (.cells cs t (0, 0))) (hx : cs.toList = xs) : ∀ j u, xs[j]? = some u → W.cell? ((⟨g, 0, none⟩ : Addr).add j) = some u := by
  intro j u hu
  have hj : W.cell? ⟨g, j, none⟩ = some u := by rw [cells_at h j, ← Array.getElem?_toList, hx]; exact hu
  unfold Addr.add
  split
  · rename_i e; subst e; exact hj
  · simpa using hj
/-- The code grows: its box, its instructions. -/
structure StS (w W : World) (Bc : Nat) (va : Option Addr) (A : Option Addr) (c : Nat) (L : List InD) (n : Nat) : Prop where
  bel : Below w.heap.size w W
  lo : w.heap.size ≤ Bc
  box : W.heap[Bc]? = some (.cells #[.string ⟨#[]⟩, .int .i64 0, .slice va 8 8, .bool false, .string ⟨#[]⟩, .int .i64 0, .slice none 0 0, .slice A n c] 30 (0, 0))
  row : W.ownsRow w.heap.size 45 13 (.slice A n c) n (L.flatMap inF)
  len : L.length = n
theorem StS.later {w W W' : World} {Bc n c : Nat} {va A : Option Addr} {L : List InD} (h : StS w W Bc va A c L n) (hb : Below W.heap.size W W') : StS w W' Bc va A c L n :=
  ⟨after h.bel hb h.bel.size, h.lo, lay hb h.box, row_at h.row (fun g q => hb.block g (row_lt h.row q).2), h.len⟩
theorem row_not {W : World} {base e size l : Nat} {v : Value} {xs : List Value} {b t : Nat} {cs : Array Value} (hr : W.ownsRow base e size v l xs) (hb : W.heap[b]? = some (.cells cs t (0, 0))) (ht : t ≠ e) : v.ownBlock ≠ some b := by
  intro q
  rcases hr.2 with ⟨e0, -⟩ | ⟨g', cap, cur, e0, -, h2, -⟩
  · rw [e0] at q; simp [Value.ownBlock] at q
  · rw [e0] at q
    simp [Value.ownBlock] at q
    subst q
    rw [hb] at h2
    injection h2 with h2
    injection h2 with _ h2
    exact ht h2
theorem StS.push {w W W2 W3 : World} {Bc n c c' : Nat} {va A A' : Option Addr} {L : List InD} {r : InD} (h : StS w W Bc va A c L n) (h2 : Below W.heap.size W W2)
    (hown : W3.ownsRow w.heap.size 45 13 (.slice A' (n + 1) c') (n + 1) (L.flatMap inF ++ inF r)) (hg : W2.grownBy W3 (Value.slice A n c).ownBlock) :
    W3.cell? ⟨Bc, 7, none⟩ = some (.slice A n c) ∧ W3.frozen? ⟨Bc, 7, none⟩ = false ∧ StS w (W3.setCell ⟨Bc, 7, none⟩ (.slice A' (n + 1) c')) Bc va A' c' (L ++ [r]) (n + 1) := by
  have h' := h.later h2
  have hne := row_not h'.row h'.box (by decide)
  have hbox : W3.heap[Bc]? = some (.cells #[.string ⟨#[]⟩, .int .i64 0, .slice va 8 8, .bool false, .string ⟨#[]⟩, .int .i64 0, .slice none 0 0, .slice A n c] 30 (0, 0)) :=
    (hg.block Bc (Array.getElem?_eq_some_iff.1 h'.box).1 (fun q => hne q.symm)).trans h'.box
  have hbel : Below w.heap.size w W3 := h'.bel.grown hg h'.bel.size (fun g q => (row_lt h'.row q).1)
  refine ⟨cells_at hbox 7, frozen_no hbox 7, hbel.setCell h.lo _, h.lo, ?_, ?_, by rw [List.length_append, h.len]; rfl⟩
  · have := set_here hbox 7 (.slice A' (n + 1) c')
    exact this
  · rw [List.flatMap_append]
    have hr : W3.ownsRow w.heap.size 45 13 (.slice A' (n + 1) c') (n + 1) (L.flatMap inF ++ [r].flatMap inF) := by simpa using hown
    refine row_at hr (fun g q => Below.heap_setCell _ _ _ _ ?_)
    rintro rfl
    exact row_not hr hbox (by decide) q
set_option maxRecDepth 100000 in
set_option maxHeartbeats 16000000 in
theorem straight_law (l : List TrD) (A : Option Addr) (c : Nat) (q : Int) (w : World) (hl : RowM 3 TrAt w A l) :
    Calls Try.prog 5 #[.slice A l.length c, .int .i64 q] w fun e w' => e = .returned (.bool true) ∧ Hid (Below w.heap.size w w') := by
  obtain ⟨i6t, hti6, hz06, hz16, hz26⟩ := info_parts info26
  obtain ⟨i5t, hti5, hz05, hz15, hz25⟩ := info_parts info45
  obtain ⟨i0t, hti, hz0, hz1, hz2⟩ := info_parts info4
  have HM6 : Hid (i6t.bytes * 8 ≤ 281474976710656) := hid (by rw [hz26]; omega)
  have HM8 : Hid (8 ≤ maxLen) := hid (by unfold maxLen; omega)
  have HM0 : Hid (i0t.bytes * 8 ≤ 281474976710656) := hid (by rw [hz2]; omega)
  obtain ⟨n, hn⟩ : ∃ n, l.length = n := ⟨_, rfl⟩
  have HN := hid hn
  have HL := hid hl
  have hl9 := hl.1
  rw [hn] at hl9 ⊢
  clear hl hn
  by_cases g0 : 60 < (n : Int)
  · go_enter Try.func5, Try.ntmps5
    go_wp2_with (go_at_call 7; refine (alive_f _).mono ?_; rintro e w3 ⟨rfl, hb⟩; have H3 := hid hb.out; clear hb)
    go_ret
    exact ⟨rfl, H3⟩
  by_cases g1 : q < 0
  · go_enter Try.func5, Try.ntmps5
    go_wp2_with (go_at_call 7; refine (alive_f _).mono ?_; rintro e w3 ⟨rfl, hb⟩; have H3 := hid hb.out; clear hb)
    go_ret
    exact ⟨rfl, H3⟩
  by_cases g2 : 7 < q
  · go_enter Try.func5, Try.ntmps5
    go_wp2_with (go_at_call 7; refine (alive_f _).mono ?_; rintro e w3 ⟨rfl, hb⟩; have H3 := hid hb.out; clear hb)
    go_ret
    exact ⟨rfl, H3⟩
  go_enter Try.func5, Try.ntmps5
  go_wp2_with (at_make; refine wpList_make_full _ rfl _ _ 22 rfl w.heap.size 26 i6t (.agg #[.bool false, .string ⟨#[]⟩, .int .i64 0]) 3 Try.underlying22 hti6 hz06 hz16 .i64 .i64 8 8 8 rfl rfl rfl rfl HM6.out HM8.out (Nat.le_refl _) ?_; intro w1 hown hgrow
               have HB1 := hid ((Below.refl _ w).grown hgrow (Nat.le_refl _) (by rintro k e; cases e))
               clear hown hgrow)
  have HS0 : Hid (StS w (w1.alloc (.cells #[.string ⟨#[]⟩, .int .i64 0, .slice (some ⟨w.heap.size, 0, none⟩) 8 8, .bool false, .string ⟨#[]⟩, .int .i64 0, .slice none 0 0, .slice none 0 0] 30)) w1.heap.size (some ⟨w.heap.size, 0, none⟩) none 0 ((l.take 0).map binI) 0) :=
    hid ⟨HB1.out.alloc HB1.out.size _, HB1.out.size, heap_alloc_new _ _, World.ownsRow_nil _ _ _ _, rfl⟩
  have HI0 : Hid (In8 (l.take 0)) := hid (fun t ht => by simp at ht)
  obtain ⟨Bc, hBc⟩ : ∃ Bc, w1.heap.size = Bc := ⟨_, rfl⟩
  obtain ⟨va, hva⟩ : ∃ va : Option Addr, some ⟨w.heap.size, 0, none⟩ = va := ⟨_, rfl⟩
  rw [hBc, hva] at HS0
  rw [hBc, hva]
  clear hBc hva HB1 HM6
  go_loopg [6] n (fun gk v6 wr => ∃ (i : Nat) (A7 : Option Addr) (c7 : Nat), i ≤ n ∧ gk = n - i ∧ v6 = .int .i64 i ∧ Hid (StS w wr Bc va A7 c7 ((l.take i).map binI) i) ∧ Hid (In8 (l.take i)))
  case atStart => exact ⟨0, none, 0, by omega, by omega, rfl, HS0, HI0⟩
  case round =>
    clear HS0 HI0
    obtain ⟨i, A7, c7, hi, rfl, rfl, HS, HI8⟩ := hrel
    by_cases hin : i < n
    · have hin' : (i : Int) < (n : Int) := by omega
      have i0 : (0 : Int) ≤ (i : Int) := by omega
      obtain ⟨t, ht⟩ := get_some HN.out hin
      obtain ⟨b, o, rfl, hb1, hct⟩ := (HL.out.later tr_stays HS.out.bel).2 i t ht
      have d0 : wr.cell? ⟨b, o + i * 3, none⟩ = some (.int .i64 t.d) := hct 0 _ rfl
      have d1 : wr.cell? ⟨b, o + i * 3 + 1, none⟩ = some (.int .i64 t.a) := hct 1 _ rfl
      have d2 : wr.cell? ⟨b, o + i * 3 + 2, none⟩ = some (.int .i64 t.b) := hct 2 _ rfl
      have HTT := hid ht
      clear ht hb1 hct
      obtain ⟨td, ta, tb⟩ := t
      simp only at d0 d1 d2
      obtain ⟨mn, hmn⟩ : ∃ mn : Int, (if tb < (if ta < td then ta else td) then tb else (if ta < td then ta else td)) = mn := ⟨_, rfl⟩
      obtain ⟨mx, hmx⟩ : ∃ mx : Int, (if (if td < ta then ta else td) < tb then tb else (if td < ta then ta else td)) = mx := ⟨_, rfl⟩
      have HMN : Hid (mn ≤ td ∧ mn ≤ ta ∧ mn ≤ tb) := hid (by rw [← hmn]; repeat' split <;> omega)
      have HMX : Hid (td ≤ mx ∧ ta ≤ mx ∧ tb ≤ mx) := hid (by rw [← hmx]; repeat' split <;> omega)
      by_cases e1 : mn < 0
      · go_wp2
        go_quiet (fail)
        go_wp2_with (go_at_call 7; refine (alive_f _).mono ?_; rintro e w3 ⟨rfl, hb⟩; have H3 := hid (after (below_drewN HS.out.bel _) hb.out HS.out.bel.size); clear hb)
        go_ret
        exact ⟨rfl, H3⟩
      by_cases e2 : 7 < mx
      · go_wp2
        go_quiet (fail)
        go_wp2_with (go_at_call 7; refine (alive_f _).mono ?_; rintro e w3 ⟨rfl, hb⟩; have H3 := hid (after (below_drewN HS.out.bel _) hb.out HS.out.bel.size); clear hb)
        go_ret
        exact ⟨rfl, H3⟩
      go_wp2
      go_quiet (fail)
      have HS1 := hid (HS.out.later (below_drewN (Below.refl _ _) nq))
      have hd0 : (wr.drewN nq).cell? ⟨b, o + i * 3, none⟩ = some (.int .i64 td) := d0
      have hd1 : (wr.drewN nq).cell? ⟨b, o + i * 3 + 1, none⟩ = some (.int .i64 ta) := d1
      have hd2 : (wr.drewN nq).cell? ⟨b, o + i * 3 + 2, none⟩ = some (.int .i64 tb) := d2
      obtain ⟨w5, hw5⟩ : ∃ w5, wr.drewN nq = w5 := ⟨_, rfl⟩
      rw [hw5] at HS1 hd0 hd1 hd2 ⊢
      clear hw5 d0 d1 d2
      have hbx := cells_at HS1.out.box 7
      have hbxd : w5.drew.cell? ⟨Bc, 7, none⟩ = some (.slice A7 i c7) := hbx
      have hbxa : ∀ o : Obj, (w5.alloc o).cell? ⟨Bc, 7, none⟩ = some (.slice A7 i c7) := fun o => cells_at1 HS1.out.box o 7
      have hbxb : ∀ o : Obj, (w5.alloc o).drew.cell? ⟨Bc, 7, none⟩ = some (.slice A7 i c7) := fun o => hbxa o
      have hd0d : w5.drew.cell? ⟨b, o + i * 3, none⟩ = some (.int .i64 td) := hd0
      have hd1d : w5.drew.cell? ⟨b, o + i * 3 + 1, none⟩ = some (.int .i64 ta) := hd1
      have hd2d : w5.drew.cell? ⟨b, o + i * 3 + 2, none⟩ = some (.int .i64 tb) := hd2
      have HTK := hid (show l.take (i + 1) = l.take i ++ [⟨td, ta, tb⟩] by rw [List.take_add_one, HTT.out]; rfl)
      have HSA := hid (fun o : Obj => (HS1.out.later (below1 w5 o)).later (below_drew1 _))
      clear HS
      go_wp2
      go_region_law (refine step_append_at rfl (.tmp 69) (.tmp 86) 28 rfl w.heap.size 45 i5t (.agg #[.int .i64 0, .int .i64 0, .int .i64 0, .int .i64 0, .int .i64 0, .int .i64 0, .string ⟨#[]⟩, .slice none 0 0, .slice none 0 0, .int .i64 0, .int .i64 0, .int .i64 0, .int .i64 0]) 13 144 Try.underlying28 hti5 hz05 hz15 hz25 rfl (by decide) (.slice A7 i c7) i (((l.take i).map binI).flatMap inF) rfl (HSA.out _).row _ 1 1 (inF (binI ⟨td, ta, tb⟩)) rfl rfl (cells_news (heap_alloc_new w5 _) rfl) (by intro u hu; simp at hu; rcases hu with rfl | rfl | rfl | rfl | rfl | rfl | rfl | rfl | rfl <;> rfl) (by unfold maxLen; omega) (by omega) (by have := (HSA.out (.cells #[] 3)).bel.size; simp at this ⊢; omega) ?_
                     intro v' w9 hown hgrow hblk
                     obtain ⟨A9, c9, rfl⟩ := own_slice hown
                     have HP := hid ((HSA.out _).push (r := binI ⟨td, ta, tb⟩) (Below.refl _ _) hown hgrow)
                     have hq1 := HP.out.1
                     have hq2 := HP.out.2.1
                     clear hown hgrow hblk)
      all_goals
        go_wp2
        go_roundg (n - (i + 1))
        case measure => omega
        case rel => exact ⟨i + 1, A9, c9, by omega, rfl, rfl, hid (by rw [HTK.out, List.map_append]; exact HP.out.2.2), hid (by
          rw [HTK.out]
          intro t ht
          rcases List.mem_append.1 ht with ht | ht
          · exact HI8.out t ht
          · rw [List.mem_singleton] at ht
            subst ht
            have h1 := HMN.out
            have h2 := HMX.out
            exact ⟨by constructor <;> (simp only; omega), by constructor <;> (simp only; omega), by constructor <;> (simp only; omega)⟩)⟩
    · have hin' : ¬ (i : Int) < (n : Int) := by omega
      obtain rfl : i = n := by omega
      have HLT := hid (show l.take i = l by rw [List.take_of_length_le (by have := HN.out; omega)])
      rw [HLT.out] at HS HI8
      have hbx := cells_at HS.out.box
      obtain ⟨N, hN⟩ : ∃ N, i + 1 = N := ⟨_, rfl⟩
      have HNE := hid hN
      have hXl : (stX l q).ins.length = N := by rw [stX_len, HN.out]; exact hN
      have HXL := hid hXl
      have HF := hid (st_fits (l := l) (q := q) HI8.out ⟨by omega, by omega⟩)
      have HOF : Hid (∀ (A9 : Option Addr) (c9 : Nat) (W : World), RowM 13 InAt W A9 (stX l q).ins → Calls Try.prog 8 #[.agg #[.string ⟨#[]⟩, .int .i64 0, .slice va 8 8, .bool false, .string ⟨#[]⟩, .int .i64 0, .slice none 0 0, .slice A9 N c9]] W fun e w' => ∃ P TA TB gA gB mA mB, e = .returned (.pointer (some ⟨P, 0, none⟩)) ∧ Hid (LT W (stX l q) va none A9 8 0 c9 N 1 P TA TB gA gB mA mB w') ∧ Hid (TellsT (stX l q) N 64 mA mB)) := hid (fun A9 c9 W hr => by
        have h := of_f (stX l q) va none A9 8 0 c9 W (by rw [hXl]; omega) (by show 8 < 1000000; omega) hr HF.out
        have hw8 : wordsN (stX l q).vs.length = 1 := by show wordsN 8 = 1; decide
        have e : CoV (stX l q) va 8 none 0 A9 c9 = #[.string ⟨#[]⟩, .int .i64 0, .slice va 8 8, .bool false, .string ⟨#[]⟩, .int .i64 0, .slice none 0 0, .slice A9 N c9] := by
          show #[Value.string ⟨#[]⟩, .int .i64 0, .slice va 8 8, .bool false, .string ⟨#[]⟩, .int .i64 0, .slice none 0 0, .slice A9 (stX l q).ins.length c9] = _
          rw [hXl]
        rw [e] at h
        refine h.mono fun e w' ⟨P, TA, TB, gA, gB, mA, mB, he, h1, h2⟩ => ⟨P, TA, TB, gA, gB, mA, mB, he, ?_, ?_⟩
        · rw [hXl, hw8] at h1; exact h1
        · rw [hXl, hw8] at h2; exact h2)
      have hn60 : i ≤ 60 := by omega
      have HAP : Hid (∀ (A9 : Option Addr) (c9 : Nat) (W : World), StS w W Bc va A9 c9 (l.map binI ++ [retI q]) N → RowM 13 InAt W A9 (stX l q).ins) := hid (fun A9 c9 W h => inrow_owns h.row h.len (by omega) (bins_plain (l := l) (q := q)))
      clear hXl
      go_wp2_with (first
        | (at_builtin; go_must (refine wpList_append_own_at _ rfl _ _ 28 rfl w.heap.size 45 i5t (.agg #[.int .i64 0, .int .i64 0, .int .i64 0, .int .i64 0, .int .i64 0, .int .i64 0, .string ⟨#[]⟩, .slice none 0 0, .slice none 0 0, .int .i64 0, .int .i64 0, .int .i64 0, .int .i64 0]) 13 144 Try.underlying28 hti5 hz05 hz15 hz25 rfl (by decide) _ i ((l.map binI).flatMap inF) rfl (HS.out.row.alloc _) ⟨wr.heap.size, 0, none⟩ 1 1 (inF (retI q)) rfl rfl (cells_news (heap_alloc_new wr _) rfl) (by intro u hu; simp at hu; rcases hu with rfl | rfl | rfl | rfl | rfl | rfl | rfl | rfl <;> rfl) (by unfold maxLen; omega) (by omega) (by have := HS.out.bel.size; simp; omega) ?_); intro v9 w9 hown9 hgrow9 hnil9 hblk9
           obtain ⟨A9, c9, rfl⟩ := own_slice hown9
           have HP := hid (HS.out.push (r := retI q) (below1 _ _) hown9 hgrow9)
           rw [hN] at HP ⊢
           have hq1 := HP.out.1
           have hq2 := HP.out.2.1
           have HS9 := hid HP.out.2.2
           have hbx9 := cells_at HS9.out.box
           clear hown9 hgrow9 hnil9 hblk9)
        | (go_at_call 8; refine (HOF.out _ _ _ (HAP.out _ _ _ HS9.out)).mono ?_; rintro e w2 ⟨P, TA, TB, gA, gB, mA, mB, rfl, hlt, htl⟩; have HT2 := hid hlt.out; have HTL := hid htl.out; have HBW2 := hid (after HS9.out.bel hlt.out.bel HS9.out.bel.size); clear hlt htl)
        | (at_make; refine wpList_make_full _ rfl _ _ 37 rfl w2.heap.size 4 i0t (.bool false) 1 Try.underlying37 hti hz0 hz1 .i64 .i64 8 8 8 rfl rfl rfl rfl HM0.out HM8.out (Nat.le_refl _) ?_; intro w3 hown hgrow
           have HB3 := hid ((Below.refl _ w2).grown hgrow (Nat.le_refl _) (by rintro k e; cases e))
           have HBL := hid (BlM.made hown)
           clear hown hgrow))
      obtain ⟨G, hG⟩ : ∃ G, w2.heap.size = G := ⟨_, rfl⟩
      rw [hG] at HBL HB3 ⊢
      have HGE := hid hG
      have HGW : Hid (w.heap.size ≤ G) := hid (by have := HBW2.out.size; omega)
      have HTE : Hid (∀ v, v < 8 → ((fun (_ : Nat) => false) v = true ↔ AskB (stX l q) i v)) := hid (fun v _ => Iff.intro (fun h => by cases h) (fun h => absurd h (by have := st_none l q v; rw [HN.out] at this; exact this)))
      clear HOF HAP HS hbx hq1 hq2 hbx9 HP HS9 hG HXL hN
      go_loopg [9] (i + 1) (fun gk v9 wr => ∃ (t : Nat) (z : Int) (am : Met), t ≤ i + 1 ∧ gk = 0 + t ∧ z = (t : Int) - 1 ∧ v9 = .int .i64 z ∧ Hid (Below G w2 wr) ∧ Hid (BlM wr G 8 am) ∧ Hid (∀ k, t = k + 1 → ∀ v, v < 8 → (am v = true ↔ AskB (stX l q) k v)))
      case atStart => exact ⟨i + 1, (i : Int), _, by omega, by omega, by omega, rfl, HB3, HBL, hid (fun k hk v hv => by rw [show k = i by omega]; exact HTE.out v hv)⟩
      case round =>
        clear HB3 HBL HTE
        obtain ⟨t, z, am, ht, rfl, hz, rfl, HB, HBL, HAM⟩ := hrel
        by_cases h0 : t = 0
        · subst h0
          have hz0 : ¬ (0 : Int) ≤ z := by omega
          clear hz HAM
          go_wp2_with (go_at_call 7; refine (alive_f _).mono ?_; rintro e w3 ⟨rfl, hb⟩; have H3 := hid (after (HBW2.out.trans (HB.out.mono HGW.out)) hb.out (by have h1 := HBW2.out.size; have h2 := HB.out.size; omega)); clear hb)
          go_ret
          exact ⟨rfl, H3⟩
        · obtain ⟨a, rfl⟩ : ∃ a, t = a + 1 := ⟨t - 1, by omega⟩
          obtain rfl : z = (a : Int) := by omega
          have a0 : (0 : Int) ≤ (a : Int) := by omega
          have HAN : Hid (a ≤ i) := hid (by omega)
          have HAM1 := hid (HAM.out a rfl)
          clear hz h0 HAM
          go_wp2
          go_loopg [10] 8 (fun gk v10 wr => ∃ v : Nat, v ≤ 8 ∧ gk = 8 - v ∧ v10 = .int .i64 v ∧ Hid (Below G w2 wr) ∧ Hid (BlM wr G 8 am))
          case atStart => exact ⟨0, by omega, by omega, rfl, HB, HBL⟩
          case round =>
            clear HB HBL
            obtain ⟨v, hv, rfl, rfl, HB, HBL⟩ := hrel
            by_cases hv8 : v < 8
            · have hv8' : (v : Int) < 8 := by omega
              have v0 : (0 : Int) ≤ (v : Int) := by omega
              have hcb := HBL.out.cell hv8
              have e2 : mB a v = am v := Bool.eq_iff_iff.2 (by rw [(HTL.out a v (by have := HAN.out; have := HNE.out; omega) (by omega)).2]; exact (HAM1.out v hv8).symm)
              have HH : Hid (∀ n, Calls Try.prog 12 #[.pointer (some ⟨P, 0, none⟩), .int .i64 a, .int .i64 v] (wr.drewN n) fun e w'' => e = .returned (.bool (am v)) ∧ ∃ n, w'' = wr.drewN n) := hid (fun n => by
                have := behind_f a v ((HT2.out.later (by have h := HB.out; rw [← HGE.out] at h; exact h)).drew n) (by have := HAN.out; have := HNE.out; omega) (show v < (stX l q).vs.length from hv8) (by show 8 ≤ 64 * 1; omega) (by omega) (by have := HNE.out; omega)
                rw [e2] at this
                exact this.mono fun e w' q => ⟨q.1, n, q.2⟩)
              obtain ⟨b1, hb1⟩ : ∃ b, am v = b := ⟨_, rfl⟩
              rw [hb1] at HH hcb
              clear e2 hb1
              cases b1
              all_goals
                go_wp2
                go_quiet (first | (go_at_call 12; with_reducible exact HH.out _))
                go_wp2
                go_roundg (8 - (v + 1))
                case measure => omega
                case rel => exact ⟨v + 1, by omega, rfl, rfl, hid (below_drewN HB.out _), hid (HBL.out.later (below_drewN (Below.refl _ _) _))⟩
            · have hv8' : ¬ (v : Int) < 8 := by omega
              by_cases hai : a < i
              · have hai' : (a : Int) < (i : Int) := by omega
                obtain ⟨tt, htt⟩ := get_some HN.out hai
                obtain ⟨h8d, h8a, h8b⟩ := HI8.out tt (List.mem_of_getElem? htt)
                obtain ⟨b, o, rfl, hb1, hct⟩ := (HL.out.later tr_stays (HBW2.out.trans (HB.out.mono HGW.out))).2 a tt htt
                obtain ⟨d', hd'⟩ : ∃ k : Nat, tt.d = k := ⟨tt.d.toNat, by omega⟩
                obtain ⟨a', ha'⟩ : ∃ k : Nat, tt.a = k := ⟨tt.a.toNat, by omega⟩
                obtain ⟨b', hb'⟩ : ∃ k : Nat, tt.b = k := ⟨tt.b.toNat, by omega⟩
                have d0 : wr.cell? ⟨b, o + a * 3, none⟩ = some (.int .i64 (d' : Int)) := by rw [← hd']; exact hct 0 _ rfl
                have d1 : wr.cell? ⟨b, o + a * 3 + 1, none⟩ = some (.int .i64 (a' : Int)) := by rw [← ha']; exact hct 1 _ rfl
                have d2 : wr.cell? ⟨b, o + a * 3 + 2, none⟩ = some (.int .i64 (b' : Int)) := by rw [← hb']; exact hct 2 _ rfl
                have hbG : b ≠ G := HBL.out.notInts d0
                have hk1 : ∀ (W : World) (k : Nat) (u : Value) (p : Nat), (W.setCell ⟨G, k, none⟩ u).cell? ⟨b, p, none⟩ = W.cell? ⟨b, p, none⟩ := fun W k u p => World.cell?_of_block (a := ⟨b, p, none⟩) (Below.heap_setCell _ _ _ _ hbG)
                have d1' : (wr.setCell ⟨G, d', none⟩ (.bool false)).cell? ⟨b, o + a * 3 + 1, none⟩ = some (.int .i64 (a' : Int)) := (hk1 _ _ _ _).trans d1
                have d2' : ((wr.setCell ⟨G, d', none⟩ (.bool false)).setCell ⟨G, a', none⟩ (.bool true)).cell? ⟨b, o + a * 3 + 2, none⟩ = some (.int .i64 (b' : Int)) := (hk1 _ _ _ _).trans ((hk1 _ _ _ _).trans d2)
                have HP1 := hid (HBL.out.put d' false (m' := fun y => if y = d' then false else am y) (fun y _ => rfl))
                have HP2 := hid (HP1.out.put a' true (m' := fun y => if y = a' then true else if y = d' then false else am y) (fun y _ => rfl))
                have HP3 := hid (HP2.out.put b' true (m' := fun y => if y = b' then true else if y = a' then true else if y = d' then false else am y) (fun y _ => rfl))
                have c1 := HBL.out.cell (i := d') (by omega)
                have c2 := HP1.out.cell (i := a') (by omega)
                have c3 := HP2.out.cell (i := b') (by omega)
                have s1 := HBL.out.soft d'
                have s2 := HP1.out.soft a'
                have s3 := HP2.out.soft b'
                have q1 : (0 : Int) ≤ (d' : Int) ∧ (d' : Int) < 8 := by omega
                have q2 : (0 : Int) ≤ (a' : Int) ∧ (a' : Int) < 8 := by omega
                have q3 : (0 : Int) ≤ (b' : Int) ∧ (b' : Int) < 8 := by omega
                obtain ⟨q11, q12⟩ := q1
                obtain ⟨q21, q22⟩ := q2
                obtain ⟨q31, q32⟩ := q3
                have HBB : Hid (Below G w2 (((wr.setCell ⟨G, d', none⟩ (.bool false)).setCell ⟨G, a', none⟩ (.bool true)).setCell ⟨G, b', none⟩ (.bool true))) := hid (((HB.out.setCell (Nat.le_refl _) _).setCell (Nat.le_refl _) _).setCell (Nat.le_refl _) _)
                have HNEW : Hid (∀ k, a = k + 1 → ∀ v, v < 8 → ((fun y => if y = b' then true else if y = a' then true else if y = d' then false else am y) v = true ↔ AskB (stX l q) k v)) := hid (fun k hk v hv => by
                  obtain ⟨tk, htk⟩ := get_some HN.out (i := k) (by omega)
                  rw [st_behind htk, ← hk, st_ask htt, hd', ha', hb', ← HAM1.out v hv]
                  simp only
                  by_cases e1 : v = b'
                  · subst e1; simp
                  · by_cases e2 : v = a'
                    · subst e2; simp
                    · by_cases e3 : v = d'
                      · subst e3; simp [e1, e2]; omega
                      · simp only [if_neg e1, if_neg e2, if_neg e3]
                        constructor
                        · exact fun h => .inr (.inr ⟨h, by omega⟩)
                        · rintro (h | h | h)
                          · exact absurd h (by omega)
                          · exact absurd h (by omega)
                          · exact h.1)
                clear htt h8d h8a h8b hb1 hct hd' ha' hb' hbG hk1 d1 d2 HAM1
                go_wp2
                go_roundg (0 + a)
                case measure => omega
                case rel => exact ⟨a, _, _, by have := HAN.out; omega, rfl, rfl, rfl, HBB, HP3, HNEW⟩
              · have hai' : ¬ (a : Int) < (i : Int) := by omega
                obtain rfl : a = i := by have := HAN.out; omega
                obtain ⟨q', hq'⟩ : ∃ k : Nat, q = k := ⟨q.toNat, by omega⟩
                have HP1 := hid (HBL.out.put q' true (m' := fun y => if y = q' then true else am y) (fun y _ => rfl))
                have c1 := HBL.out.cell (i := q') (by omega)
                have s1 := HBL.out.soft q'
                have q11 : (0 : Int) ≤ (q' : Int) := by omega
                have q12 : (q' : Int) < 8 := by omega
                have HBB : Hid (Below G w2 (wr.setCell ⟨G, q', none⟩ (.bool true))) := hid (HB.out.setCell (Nat.le_refl _) _)
                have HNEW : Hid (∀ k, a = k + 1 → ∀ v, v < 8 → ((fun y => if y = q' then true else am y) v = true ↔ AskB (stX l q) k v)) := hid (fun k hk v hv => by
                  obtain ⟨tk, htk⟩ := get_some HN.out (i := k) (by omega)
                  have hla := st_asklast l q v
                  rw [HN.out] at hla
                  have hno : ¬ AskB (stX l q) a v := by have := st_none l q v; rw [HN.out] at this; exact this
                  rw [st_behind htk, ← hk, hla, hq']
                  simp only
                  by_cases e1 : v = q'
                  · subst e1; simp
                  · rw [if_neg e1, HAM1.out v hv]
                    exact ⟨fun h => absurd h hno, fun h => absurd h (by omega)⟩)
                subst hq'
                clear HAM1
                go_wp2
                go_roundg (0 + a)
                case measure => omega
                case rel => exact ⟨a, _, _, by omega, rfl, rfl, rfl, HBB, HP1, HNEW⟩
end Go.Proofs.Ytlbcinanpnjjjaa
