/- FlowReaches, as a call: it returns true, and leaves what was as it was. No conditions. -/
import Derived.Test.YtbmjhkimeeahhaaFmC
import Derived.Test.YtbmjhkimeeahhaaFmJ
import Derived.Test.YtbmjhkimeeahhaaFmK
import Derived.Test.YtbmjhkimeeahhaaFlW
import Derived.Test.YtbmjhkimeeahhaaFlR
import Derived.Deep.RegionHeld3
namespace Go.Proofs.Ytbmjhkimeeahhaa
open Go.RowKit Go.Maps Go.Shelf
set_option linter.unusedVariables false
set_option linter.unusedSimpArgs false
/-- The law's code box. -/
structure CX (w : World) (cv : Array Value) (W : World) : Prop where
  bel : Below w.heap.size w W
  box : W.heap[w.heap.size]? = some (.cells cv 30 (0, 0))
section
variable {w W W' : World} {cv : Array Value}
theorem CX.later (h : CX w cv W) (hb : Below W.heap.size W W') : CX w cv W' := ⟨after h.bel hb h.bel.size, lay hb h.box⟩
theorem CX.cn (h : CX w cv W) : ∀ i, W.cell? ⟨w.heap.size, i, none⟩ = cv[i]? := fun i => cells_at h.box i
end
theorem eqB {xs ys : List Bool} (h : xs = ys) : eqL (· == ·) xs ys = true := by
  subst h
  exact eqL_yes rfl (fun i x y _ h1 h2 => by rw [h1] at h2; cases h2; simp)
theorem truths_same {x : CoD} {G c n : Nat} {A : Option Addr} {m : Met} {l : List Bool} {W : World} (hn : n < 1000000) (hb : BlM W G n m) (hm : ∀ k, k < n → (m k = true ↔ Way (nxE x) 0 k))
    (hl : l.length = n ∧ BoolsM W A l ∧ ∀ i, i < n → (l[i]? = some true ↔ Way (nxE x) 0 i)) :
    Calls Try.prog 9 #[.slice (some ⟨G, 0, none⟩) n n, .slice A n c] W fun e w' => e = .returned (.bool true) ∧ Hid (Below W.heap.size W w') := by
  obtain ⟨h1, h2, h3⟩ := hl
  have hx : (List.range n).map m = l := by
    refine List.ext_getElem? fun i => ?_
    by_cases hi : i < n
    · have hr : ((List.range n).map m)[i]? = some (m i) := by simp [hi]
      obtain ⟨b, hbb⟩ := get_some (l := l) (i := i) h1 hi
      rw [hr, hbb]
      have e1 := hm i hi
      have e2 := h3 i hi
      rw [hbb] at e2
      cases hmi : m i <;> cases b <;> simp_all
    · rw [List.getElem?_eq_none (by simp; omega), List.getElem?_eq_none (by omega)]
  have := truths_i ((List.range n).map m) l (some ⟨G, 0, none⟩) A n c true W (hb.list (by omega)) h2 (eqB hx)
  simpa [h1] using this
set_option maxRecDepth 100000 in
set_option maxHeartbeats 16000000 in
theorem reaches_law (x : CoD) (va fa ia : Option Addr) (vc fc ic : Nat) (w : World) (hC : CoM w x va fa ia) :
    Calls Try.prog 3 #[.agg (CoV x va vc fa fc ia ic)] w fun e w' => e = .returned (.bool true) ∧ Hid (Below w.heap.size w w') := by
  have HS := hid (⟨below1 w (.cells (CoV x va vc fa fc ia ic) 30), heap_alloc_new w (.cells (CoV x va vc fa fc ia ic) 30)⟩ : CX w (CoV x va vc fa fc ia ic) (w.alloc (.cells (CoV x va vc fa fc ia ic) 30)))
  have hx := HS.out.cn
  have HC := hid hC
  clear hC
  go_enter Try.func3, Try.ntmps3
  go_upto_region 3 with (go_at_call 7; go_must (refine (light8 x va fa ia vc fc ic _ (HC.out.later HS.out.bel)).mono ?_); rintro e w1 ⟨⟨l, rfl, hl⟩, hb⟩; have H1 := hid (HS.out.later hb.out); have HLt := hid hl; have hx1 := H1.out.cn; clear hb hl hx)
  · go_wp2_with (go_at_call 8; refine (alive_i _).mono ?_; rintro e w3 ⟨rfl, hb⟩; have H3 := hid (H1.out.later hb.out); clear hb)
    go_ret
    exact ⟨rfl, hid H3.out.bel⟩
  · have hn := HLt.out (by cases l <;> simp_all)
    have HN : Hid (x.ins.length ≤ 150) := hid hn
    have HRF := hid (fun W hb => reach_f x va fa ia vc fc ic w W (by omega) HC.out.ins hb)
    have HRR := hid (fun (W : World) (hb : Below w.heap.size w W) => rreach_g x va fa ia vc fc ic W (by omega) (HC.out.ins.later in_stays hb))
    have HBF := hid (fun W hb => behind_f x va fa ia vc fc ic w W (by omega) HC.out.ins hb)
    have HBR := hid (fun (W : World) (hb : Below w.heap.size w W) => rbehind_g x va fa ia vc fc ic W (by omega) (HC.out.ins.later in_stays hb))
    have HNM : Hid (x.ins.length < 1000000) := hid (by omega)
    have HNC : Hid (2 * x.ins.length ≤ 10000000) := hid (by omega)
    clear HLt hn
    have HP0 := hid (H1.out.later (below_drew1 w1))
    clear hx1
    have hcn := H1.out.cn
    have T1 : True := trivial
    go_region_held3 (fun W => ∀ i, W.cell? ⟨w.heap.size, i, none⟩ = (CoV x va vc fa fc ia ic)[i]?)
      (first | exact HP0.out.cn | exact HP1.out.cn | exact HP2.out.cn | exact HP3.out.cn | exact HP4.out.cn | exact HP5.out.cn | exact HP6.out.cn | exact HP7.out.cn)
      (first
      | (go_at_call 10; have tok := HP0; clear HP0; go_must (refine (HRF.out _ tok.out.bel).mono ?_); rintro e v0 ⟨G, m, rfl, hbl, hm, hb⟩; have HP1 := hid (tok.out.later hb.out.2); have HU := hid hbl.out; have HM := hid hm.out; clear hb tok hbl hm)
      | (go_at_call 11; have tok := HP1; clear HP1; go_must (refine (HRR.out _ tok.out.bel).mono ?_); rintro e v1 ⟨A, c, ll, rfl, hl, hb⟩; have HP2 := hid (tok.out.later hb.out); have HU := hid (HU.out.later hb.out); have HL := hid hl.out; clear hb tok hl)
      | (go_at_call 9; have tok := HP2; clear HP2; go_must (refine (truths_same (c := c) HNM.out HU.out HM.out HL.out).mono ?_); rintro e v2 ⟨rfl, hb⟩; have HP3 := hid (tok.out.later hb.out); clear hb tok)
      | (go_at_call 13; have tok := HP3; clear HP3; go_must (refine (HBF.out _ tok.out.bel).mono ?_); rintro e v3 ⟨Ta, ba, vsa, rfl, ht, hb⟩; have HP4 := hid (tok.out.later hb.out.2.2); have HTA := hid ht.out; clear hb tok ht)
      | (go_at_call 14; have tok := HP4; clear HP4; go_must (refine (HBR.out _ tok.out.bel).mono ?_); rintro e v4 ⟨Tb, bb, vsb, rfl, ht, hb⟩; have HP5 := hid (tok.out.later hb.out.2.2); have HTA := hid (HTA.out.later hb.out.2.2); have HTB := hid ht.out; clear hb tok ht)
      | (go_at_call 12; have tok := HP5; clear HP5; go_must (refine (lists_i Ta Tb ba bb x.ins.length _ _ vsa vsb _ _ HTA.out HTB.out HNC.out HNC.out HNM.out).mono ?_); rintro e v5 ⟨rfl, hb⟩; have HP6 := hid (tok.out.later hb.out); clear hb tok)
      | (go_at_call 8; have tok := HP6; clear HP6; go_must (refine (alive_i _).mono ?_); rintro e v6 ⟨rfl, hb⟩; have HP7 := hid (tok.out.later hb.out); clear hb tok))
    all_goals
      go_wp2
      go_ret
      exact ⟨rfl, hid HP7.out.bel⟩
end Go.Proofs.Ytbmjhkimeeahhaa
