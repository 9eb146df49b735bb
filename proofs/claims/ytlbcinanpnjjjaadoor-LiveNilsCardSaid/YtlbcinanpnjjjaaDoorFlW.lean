/- Light. No conditions. -/
import Derived.Test.YtlbcinanpnjjjaaDoorFlV
import Derived.Test.YtlbcinanpnjjjaaDoorLvA
namespace Go.Proofs.YtlbcinanpnjjjaaDoor
open Go.RowKit Go.Maps
set_option linter.unusedVariables false
set_option linter.unusedSimpArgs false
/-- It tells a bool; is it true, there are at most 150, of at most 40 arguments. -/
def Light8 (x : CoD) (e : Ending) : Prop := ∃ l : Bool, e = .returned (.bool l) ∧ (l = true → x.ins.length ≤ 150 ∧ ∀ r ∈ x.ins, r.xs.length ≤ 40)
theorem light_t {x : CoD} (h : x.ins.length ≤ 150) (l : Bool) (h2 : l = true → ∀ r ∈ x.ins, r.xs.length ≤ 40) : Light8 x (.returned (.bool l)) := ⟨l, rfl, fun hl => ⟨h, h2 hl⟩⟩
theorem light_n {x : CoD} : Light8 x (.returned (.bool false)) := ⟨false, rfl, fun h => by cases h⟩
theorem co_row {w W : World} {B : Nat} {x : CoD} {va fa ia : Option Addr} {vc fc ic : Nat} (hB : W.heap[B]? = some (.cells (CoV x va vc fa fc ia ic) 30 (0, 0))) (h : CoM w x va fa ia) (hb : Below w.heap.size w W) : RowM 8 CoAt W (some ⟨B, 0, none⟩) [x] := by
  refine ⟨by simp, fun i y hy => ⟨B, 0, rfl, (Array.getElem?_eq_some_iff.1 hB).1, ?_⟩⟩
  match i, hy with
  | 0, hy =>
    simp at hy
    subst hy
    refine ⟨va, vc, fa, fc, ia, ic, fun j v hj => ?_, h.later hb⟩
    rw [show 0 + 0 * 8 + j = j by omega, cells_at hB]
    exact hj
  | i + 1, hy => simp at hy
set_option maxRecDepth 100000 in
set_option maxHeartbeats 4000000 in
theorem light8 (x : CoD) (va fa ia : Option Addr) (vc fc ic : Nat) (w : World) (hC : CoM w x va fa ia) :
    Calls Tryd.prog 19 #[.agg (CoV x va vc fa fc ia ic)] w fun e w' => Light8 x e ∧ Hid (Below w.heap.size w w') := by
  have HB := hid (below1 w (.cells (CoV x va vc fa fc ia ic) 30))
  have HX := hid (heap_alloc_new w (.cells (CoV x va vc fa fc ia ic) 30))
  have hx := fun i => cells_at HX.out i
  by_cases h : x.ins.length ≤ 150
  · have h1 : (x.ins.length : Int) ≤ 150 := by omega
    have HB2 := hid (below2 w (.cells (CoV x va vc fa fc ia ic) 30) (.cells (CoV x va vc fa fc ia ic) 30))
    have HR : Hid (RowM 8 CoAt ((w.alloc (.cells (CoV x va vc fa fc ia ic) 30)).alloc (.cells (CoV x va vc fa fc ia ic) 30)) (some ⟨w.heap.size + 1, 0, none⟩) [x]) := hid (co_row (boxes' w (CoV x va vc fa fc ia ic) 30 (CoV x va vc fa fc ia ic) 30).2 hC HB2.out)
    have HL := hid (light_r [] [x] none (some ⟨w.heap.size + 1, 0, none⟩) 0 1 _ ⟨by simp, fun i y hy => by simp at hy⟩ HR.out)
    have HH := hid h
    clear hC h
    go_enter Tryd.func19, Tryd.ntmps19
    go_wp2_with (go_at_call 39; go_must (refine HL.out.mono ?_); rintro e w1 ⟨⟨l, rfl, hl8⟩, hb⟩; have HL8 := hid hl8; have HB3 := hid (after HB2.out hb.out HB2.out.size); clear hb hl8)
    go_ret
    exact ⟨light_t HH.out l (fun h => HL8.out h x (by simp)), HB3⟩
  · have h1 : ¬ (x.ins.length : Int) ≤ 150 := by omega
    clear hC h
    go_enter Tryd.func19, Tryd.ntmps19
    go_wp2
    go_ret
    exact ⟨light_n, HB⟩
end Go.Proofs.YtlbcinanpnjjjaaDoor
