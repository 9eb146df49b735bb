/- The table by the reference; LiveTables. No conditions. -/
import Derived.Test.YtlbcinanpnjjjaaLvP
import Derived.Deep.QuietTactic
import Derived.BigQuiet
namespace Go.Proofs.Ytlbcinanpnjjjaa
open Go.RowKit Go.Maps
set_option linter.unusedVariables false
set_option linter.unusedSimpArgs false
/-- The first i rows of the table, each in a block of its own. -/
structure TbS (w0 W : World) (n : Nat) (v3 : Value) (gs : Nat → Nat) (ms : Nat → Met) (i : Nat) : Prop where
  bel : Below w0.heap.size w0 W
  row : W.ownsRow w0.heap.size 37 1 v3 i ((List.range i).map fun a => .slice (some ⟨gs a, 0, none⟩) n n)
  bl : ∀ a, a < i → BlM W (gs a) n (ms a)
section
variable {w0 W W' : World} {n i : Nat} {v3 v' : Value} {gs : Nat → Nat} {ms : Nat → Met}
theorem TbS.later (h : TbS w0 W n v3 gs ms i) (hb : Below W.heap.size W W') : TbS w0 W' n v3 gs ms i :=
  ⟨after h.bel hb h.bel.size, row_at h.row (fun g q => hb.block g (row_lt h.row q).2), fun a ha => (h.bl a ha).later hb⟩
theorem TbS.push {g : Nat} {m : Met} {W2 W3 : World} (h : TbS w0 W n v3 gs ms i) (hb : BlM W g n m) (h2 : Below W.heap.size W W2)
    (h3 : W3.ownsRow w0.heap.size 37 1 v' (i + 1) (((List.range i).map fun a => .slice (some ⟨gs a, 0, none⟩) n n) ++ [.slice (some ⟨g, 0, none⟩) n n])) (hg : W2.grownBy W3 v3.ownBlock) :
    TbS w0 W3 n v' (fun a => if a = i then g else gs a) (fun a => if a = i then m else ms a) (i + 1) := by
  have h' := h.later h2
  refine ⟨h'.bel.grown hg h'.bel.size (fun g q => (row_lt h.row q).1), ?_, fun a ha => ?_⟩
  · have e : ((List.range (i + 1)).map fun a => Value.slice (some ⟨(fun a => if a = i then g else gs a) a, 0, none⟩) n n) = ((List.range i).map fun a => Value.slice (some ⟨gs a, 0, none⟩) n n) ++ [.slice (some ⟨g, 0, none⟩) n n] := by
      rw [List.range_succ, List.map_append]
      congr 1
      · refine List.map_congr_left fun a ha => ?_
        rw [List.mem_range] at ha
        simp only [if_neg (show ¬ a = i by omega)]
      · simp
    rw [e]
    exact h3
  · by_cases e : a = i
    · subst e
      simp only [if_true]
      exact (hb.later h2).grown hg ((hb.later h2).not h'.row (by decide))
    · simp only [if_neg e]
      have hm := h'.bl a (by omega)
      exact hm.grown hg (hm.not h'.row (by decide))
end
/-- What Table leaves. -/
def TableP (x : CoD) (w : World) (e : Ending) (w' : World) : Prop :=
  ∃ v3 gs ms, e = .returned v3 ∧ Hid (TbS w w' x.ins.length v3 gs ms x.vs.length) ∧ Hid (∀ a, a < x.vs.length → ∀ y, y < x.ins.length → (ms a y = true ↔ AskB x y a))
set_option maxRecDepth 100000 in
set_option maxHeartbeats 16000000 in
theorem rtable_f (x : CoD) (va fa ia : Option Addr) (vc fc ic : Nat) (w : World) (hs : x.ins.length ≤ 150) (hv : x.vs.length ≤ 80) (hC : RowM 13 InAt w ia x.ins) (hF : Fits x) :
    Calls Try.prog 9 #[.agg (CoV x va vc fa fc ia ic)] w (TableP x w) := by
  obtain ⟨i7t, hti7, hz07, hz17, hz27⟩ := info_parts info37
  obtain ⟨w0, hw0⟩ : ∃ w0, w.alloc (.cells (CoV x va vc fa fc ia ic) 30) = w0 := ⟨_, rfl⟩
  have HX : Hid (CX w (CoV x va vc fa fc ia ic) w0) := hid (by subst hw0; exact ⟨below1 _ _, heap_alloc_new _ _⟩)
  have HC := hid hC
  have HV := hid hv
  have HBF := hid (fun (v : Nat) (W : World) (hb : Below w.heap.size w W) => rbehind10_f x v va fa ia vc fc ic W hs (HC.out.later in_stays hb) hF)
  have HT0 : Hid (TbS w w0 x.ins.length (.slice none 0 0) (fun _ => 0) (fun _ _ => false) 0) := hid ⟨HX.out.bel, World.ownsRow_nil _ _ _ _, fun a ha => absurd ha (by omega)⟩
  have HQ0 : Hid (∀ a, a < 0 → ∀ y, y < x.ins.length → ((fun (_ : Nat) (_ : Nat) => false) a y = true ↔ AskB x y a)) := hid (fun a ha => absurd ha (by omega))
  clear hC hs hv hF
  go_enter Try.func9, Try.ntmps9
  go_wp2
  clear hw0
  go_loopg [3, 4] x.vs.length (fun gk v3 v4 wr => ∃ (i : Nat) (gs : Nat → Nat) (ms : Nat → Met), i ≤ x.vs.length ∧ gk = x.vs.length - i ∧ v4 = .int .i64 i ∧ Hid (CX w (CoV x va vc fa fc ia ic) wr) ∧ Hid (TbS w wr x.ins.length v3 gs ms i) ∧ Hid (∀ a, a < i → ∀ y, y < x.ins.length → (ms a y = true ↔ AskB x y a)))
  case atStart => exact ⟨0, _, _, by omega, by omega, rfl, HX, HT0, HQ0⟩
  case round =>
    clear HX HT0 HQ0
    obtain ⟨i, gs, ms, hi, rfl, rfl, HX, HT, HQ⟩ := hrel
    have v9 : x.vs.length ≤ 80 := HV.out
    have hcn := HX.out.cn
    by_cases hin : i < x.vs.length
    · have hin' : (i : Int) < (x.vs.length : Int) := by omega
      have HB1 := hid (HBF.out i wr HX.out.bel)
      go_wp2_with (first
        | (go_at_call 23; refine HB1.out.mono ?_; rintro e w5 ⟨G, m, rfl, hbl, hm, hb⟩
           have HX5 := hid (HX.out.later hb.out.2)
           have HT5 := hid (HT.out.later hb.out.2)
           have HBL := hid hbl.out
           have HMM := hid hm.out
           clear hbl hm hb)
        | (at_builtin; go_must (refine wpList_append_own_at _ rfl _ _ 35 rfl w.heap.size 37 i7t (.slice none 0 0) 1 24 Try.underlying35 hti7 hz07 hz17 hz27 rfl (by decide) _ i ((List.range i).map fun a => .slice (some ⟨gs a, 0, none⟩) x.ins.length x.ins.length) rfl (HT5.out.row.alloc _) ⟨w5.heap.size, 0, none⟩ 1 1 [.slice (some ⟨G, 0, none⟩) x.ins.length x.ins.length] rfl rfl (by intro j u hj; cases j with | zero => (simp at hj; subst hj; exact cells_at (heap_alloc_new w5 _) 0) | succ j => simp at hj) (by intro u hu; simp at hu; subst hu; rfl) (by unfold maxLen; omega) (by omega) (by have := HT5.out.bel.size; simp; omega) ?_); intro v9 w9 hown9 hgrow9 hnil9 hblk9
           have HT9 := hid (HT5.out.push HBL.out (below1 _ _) hown9 hgrow9)
           have HX9 : Hid (CX w (CoV x va vc fa fc ia ic) w9) := hid (by
             have h6 := HX5.out.later (below1 w5 (.cells #[.slice (some ⟨G, 0, none⟩) x.ins.length x.ins.length] 37))
             refine ⟨HT9.out.bel, (hgrow9.block _ (Array.getElem?_eq_some_iff.1 h6.box).1 (fun q => ?_)).trans h6.box⟩
             exact row_not79 HT5.out.row HX5.out.box (by decide) q.symm)
           clear hown9 hgrow9 hnil9 hblk9))
      go_roundg (x.vs.length - (i + 1))
      case measure => omega
      case rel => exact ⟨i + 1, _, _, by omega, rfl, rfl, HX9, HT9, hid (fun a ha y hy => by
        by_cases e : a = i
        · subst e
          simp only [if_true]
          exact HMM.out y hy
        · simp only [if_neg e]
          exact HQ.out a (by omega) y hy)⟩
    · have hin' : ¬ (i : Int) < (x.vs.length : Int) := by omega
      obtain rfl : i = x.vs.length := by omega
      go_wp2
      go_ret
      exact ⟨_, gs, ms, rfl, HT, HQ⟩
set_option maxRecDepth 100000 in
set_option maxHeartbeats 16000000 in
theorem tables_law (x : CoD) (va fa ia : Option Addr) (vc fc ic : Nat) (w : World) (hC : CoM w x va fa ia) :
    Calls Try.prog 3 #[.agg (CoV x va vc fa fc ia ic)] w fun e w' => e = .returned (.bool true) ∧ Hid (Below w.heap.size w w') := by
  have HX := hid (⟨below1 w (.cells (CoV x va vc fa fc ia ic) 30), heap_alloc_new w (.cells (CoV x va vc fa fc ia ic) 30)⟩ : CX w (CoV x va vc fa fc ia ic) (w.alloc (.cells (CoV x va vc fa fc ia ic) 30)))
  have HC := hid hC
  have hcn := HX.out.cn
  clear hC
  go_enter Try.func3, Try.ntmps3
  go_upto_region 3 with (go_at_call 6; go_must (refine (light_f x va fa ia vc fc ic _ (HC.out.later HX.out.bel)).mono ?_); rintro e w1 ⟨⟨l, rfl, hl⟩, hb⟩; have H1 := hid (HX.out.later hb.out); have HLt := hid hl; have hx1 := H1.out.cn; clear hb hl hcn)
  · go_wp2_with (go_at_call 7; refine (alive_f _).mono ?_; rintro e w3 ⟨rfl, hb⟩; have H3 := hid (H1.out.later hb.out); clear hb)
    go_ret
    exact ⟨rfl, hid H3.out.bel⟩
  · obtain rfl : l = true := by cases l <;> simp_all
    have hl := HLt.out rfl
    have HI150 := hid hl.1
    have HV80 := hid hl.2.1
    have HOF := hid (of_f x va fa ia vc fc ic w1 (by omega) (by omega) (HC.out.ins.later in_stays H1.out.bel) hl.2.2)
    have HTF := hid (fun (W : World) (hb : Below w.heap.size w W) => rtable_f x va fa ia vc fc ic W hl.1 hl.2.1 (HC.out.ins.later in_stays hb) hl.2.2)
    have HAF := hid (fun (v : Nat) (W : World) (hb : Below w.heap.size w W) => rahead_f x v va fa ia vc fc ic W hl.1 (HC.out.ins.later in_stays hb) hl.2.2)
    clear HLt hl
    go_wp2_with (first
      | (go_at_call 8; refine HOF.out.mono ?_; rintro e w2 ⟨P, TA, TB, gA, gB, mA, mB, rfl, hlt, htl⟩; have HX2 := hid (hlt.out.cx H1.out); have HT2 := hid (hlt.out.low H1.out.bel); have HTL := hid htl.out; have hcn2 := HX2.out.cn; clear hlt htl hx1)
      | (go_at_call 9; refine (HTF.out _ HX2.out.bel).mono ?_; rintro e w3 ⟨u3, gs, ms, rfl, htb, hms⟩; have HX3 := hid (HX2.out.later htb.out.bel); have HT3 := hid (HT2.out.later htb.out.bel); have HTB := hid htb.out; have HMS := hid hms.out; clear htb hms hcn2))
    clear HOF H1 HTF HX2 HT2
    obtain ⟨nw, hnw⟩ : ∃ nw, wordsN x.vs.length = nw := ⟨_, rfl⟩
    have HW : Hid (x.vs.length ≤ 64 * nw) := hid (hnw ▸ words_le _)
    have HNW : Hid (nw < 1000000) := hid (by rw [← hnw]; unfold wordsN; have := HV80.out; omega)
    rw [hnw] at HT3 HTL
    clear hnw
    obtain ⟨A3, c3, rfl⟩ := own_slice HTB.out.row
    go_loopg [5] x.vs.length (fun gk v5 wr => ∃ v : Nat, v ≤ x.vs.length ∧ gk = x.vs.length - v ∧ v5 = .int .i64 v ∧ Hid (CX w (CoV x va vc fa fc ia ic) wr) ∧ Hid (LT w x va fa ia vc fc ic x.ins.length nw P TA TB gA gB mA mB wr) ∧ Hid (TbS w2 wr x.ins.length (.slice A3 x.vs.length c3) gs ms x.vs.length))
    case atStart => exact ⟨0, by omega, by omega, rfl, HX3, HT3, HTB⟩
    case round =>
      clear HX3 HT3 HTB
      obtain ⟨v, hv, rfl, rfl, HX, HT, HTB⟩ := hrel
      have hcn := HX.out.cn
      have n9 : x.ins.length ≤ 150 := HI150.out
      have v9 : x.vs.length ≤ 80 := HV80.out
      by_cases hvV : v < x.vs.length
      · have hvV' : (v : Int) < (x.vs.length : Int) := by omega
        have v0 : (0 : Int) ≤ (v : Int) := by omega
        have HVV := hid hvV
        have HAV := hid (HAF.out v wr HX.out.bel)
        clear hvV
        go_wp2_with (go_at_call 10; refine HAV.out.mono ?_; rintro e w5 ⟨G, out, rfl, hbl, ho, hb⟩; have HX5 := hid (HX.out.later hb.out.2); have HT5 := hid (HT.out.later hb.out.2); have HTB5 := hid (HTB.out.later hb.out.2); have HBL := hid hbl.out; have HO := hid ho.out; clear hbl ho hb hcn)
        clear HX HT HTB HAV
        obtain ⟨g3, cap3, e3, -, -, hc3⟩ := row_cells HTB5.out.row (by have := HVV.out; omega)
        obtain ⟨rfl, rfl⟩ : A3 = some ⟨g3, 0, none⟩ ∧ c3 = cap3 := by injection e3 with a b c; exact ⟨a, c⟩
        have HC3 : Hid (w5.cell? ⟨g3, v, none⟩ = some (.slice (some ⟨gs v, 0, none⟩) x.ins.length x.ins.length)) := hid (hc3 v _ (by rw [List.getElem?_map, List.getElem?_range HVV.out]; rfl))
        clear e3 hc3
        go_loopg [7] x.ins.length (fun gk v7 wr => ∃ i : Nat, i ≤ x.ins.length ∧ gk = x.ins.length - i ∧ v7 = .int .i64 i ∧ Hid (CX w (CoV x va vc fa fc ia ic) wr) ∧ Hid (LT w x va fa ia vc fc ic x.ins.length nw P TA TB gA gB mA mB wr) ∧ Hid (TbS w2 wr x.ins.length (.slice (some ⟨g3, 0, none⟩) x.vs.length c3) gs ms x.vs.length) ∧ Hid (BlM wr G x.ins.length out) ∧ Hid (wr.cell? ⟨g3, v, none⟩ = some (.slice (some ⟨gs v, 0, none⟩) x.ins.length x.ins.length)))
        case atStart => exact ⟨0, by omega, by omega, rfl, HX5, HT5, HTB5, HBL, HC3⟩
        case round =>
          clear HX5 HT5 HTB5 HBL HC3
          obtain ⟨i, hi, rfl, rfl, HX6, HT6, HTB6, HBL6, HC6⟩ := hrel
          have hcn := HX6.out.cn
          by_cases hin : i < x.ins.length
          · have hin' : (i : Int) < (x.ins.length : Int) := by omega
            have i0 : (0 : Int) ≤ (i : Int) := by omega
            have hc3 := HC6.out
            have hcb := HBL6.out.cell hin
            have hcm := (HTB6.out.bl v HVV.out).cell hin
            have e1 : mA i v = out i := Bool.eq_iff_iff.2 (by rw [(HTL.out i v hin (by have := HW.out; have := HVV.out; omega)).1]; exact (HO.out i hin).symm)
            have e2 : mB i v = ms v i := Bool.eq_iff_iff.2 (by rw [(HTL.out i v hin (by have := HW.out; have := HVV.out; omega)).2]; exact (HMS.out v HVV.out i hin).symm)
            have HH1 : Hid (∀ n, Calls Try.prog 11 #[.pointer (some ⟨P, 0, none⟩), .int .i64 i, .int .i64 v] (wr.drewN n) fun e w'' => e = .returned (.bool (out i)) ∧ ∃ n, w'' = wr.drewN n) := hid (fun n => by
              have := ahead_f i v (HT6.out.drew n) hin HVV.out HW.out HNW.out (by omega)
              rw [e1] at this
              exact this.mono fun e w' q => ⟨q.1, n, q.2⟩)
            have HH2 : Hid (∀ n, Calls Try.prog 12 #[.pointer (some ⟨P, 0, none⟩), .int .i64 i, .int .i64 v] (wr.drewN n) fun e w'' => e = .returned (.bool (ms v i)) ∧ ∃ n, w'' = wr.drewN n) := hid (fun n => by
              have := behind_f i v (HT6.out.drew n) hin HVV.out HW.out HNW.out (by omega)
              rw [e2] at this
              exact this.mono fun e w' q => ⟨q.1, n, q.2⟩)
            obtain ⟨b1, hb1⟩ : ∃ b, out i = b := ⟨_, rfl⟩
            obtain ⟨b2, hb2⟩ : ∃ b, ms v i = b := ⟨_, rfl⟩
            rw [hb1] at HH1 hcb
            rw [hb2] at HH2 hcm
            clear e1 e2 hb1 hb2
            cases b1 <;> cases b2
            all_goals
              go_wp2
              go_quiet (first | (go_at_call 11; with_reducible exact HH1.out _) | (go_at_call 12; with_reducible exact HH2.out _))
              go_wp2
              go_roundg (x.ins.length - (i + 1))
              case measure => omega
              case rel => exact ⟨i + 1, by omega, rfl, rfl, hid (HX6.out.later (below_drewN (Below.refl _ _) _)), hid (HT6.out.drew _), hid (HTB6.out.later (below_drewN (Below.refl _ _) _)), hid (HBL6.out.later (below_drewN (Below.refl _ _) _)), hid HC6.out⟩
          · have hin' : ¬ (i : Int) < (x.ins.length : Int) := by omega
            obtain rfl : i = x.ins.length := by omega
            go_wp2
            go_roundg (x.vs.length - (v + 1))
            case measure => have := HVV.out; omega
            case rel => exact ⟨v + 1, by have := HVV.out; omega, rfl, rfl, HX6, HT6, HTB6⟩
      · have hvV' : ¬ (v : Int) < (x.vs.length : Int) := by omega
        obtain rfl : v = x.vs.length := by omega
        go_wp2_with (go_at_call 7; refine (alive_f _).mono ?_; rintro e w3 ⟨rfl, hb⟩; have H3 := hid (HX.out.later hb.out); clear hb)
        go_ret
        exact ⟨rfl, hid H3.out.bel⟩
end Go.Proofs.Ytlbcinanpnjjjaa
