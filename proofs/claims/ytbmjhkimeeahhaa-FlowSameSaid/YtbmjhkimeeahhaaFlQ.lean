/- Order, by the program. Condition: fewer than a million instructions. -/
import Derived.Test.YtbmjhkimeeahhaaFlO
import Derived.Test.YtbmjhkimeeahhaaFlP
namespace Go.Proofs.Ytbmjhkimeeahhaa
open Go.RowKit Go.Maps
set_option linter.unusedVariables false
set_option linter.unusedSimpArgs false
/-- The order of a code. -/
def OrderIs (x : CoD) (L : List Nat) : Prop := (x.ins.length = 0 ∧ L = []) ∨ (0 < x.ins.length ∧ ∃ l s, WalkIs x 0 l s ∧ L = l.reverse)
theorem order_is (x : CoD) : ∃ L, OrderIs x L := by
  by_cases h : x.ins.length = 0
  · exact ⟨[], .inl ⟨h, rfl⟩⟩
  · obtain ⟨l, s, hw⟩ := walk_is x 0 (by omega)
    exact ⟨_, .inr ⟨by omega, l, s, hw, rfl⟩⟩
/-- A list of the call's own. -/
abbrev OwnN (W : World) (base : Nat) (v : Value) (L : List Nat) : Prop := W.ownsRow base 3 1 v L.length (natV L)
def ListPost (w : World) (L : List Nat) (e : Ending) (w' : World) : Prop := ∃ v, e = .returned v ∧ Hid (OwnN w' w.heap.size v L) ∧ Hid (Below w.heap.size w w')
theorem rev_nil (w : World) : Calls Try.prog 33 #[.slice none 0 0] w fun e w' => (∃ v, e = .returned v) ∧ w = w' := by
  go_enter Try.func33, Try.ntmps33
  go_wp2
  refine wp_loop_rounds 1 ?_
  rw [rounds_succ]
  go_wp2
  go_end0
  exact ⟨⟨_, rfl⟩, rfl⟩
set_option maxRecDepth 100000 in
set_option maxHeartbeats 4000000 in
theorem walk_none (x : CoD) (va fa ia : Option Addr) (vc fc ic : Nat) (fm fl : Value) (k : Int) (w : World) (hk : inN x.ins.length k = false) :
    Calls Try.prog 29 #[.agg (CoV x va vc fa fc ia ic), .int .i64 k, fm, fl] w fun e w' => (∃ v, e = .returned v) ∧ Hid (Below w.heap.size w w') := by
  have HB := hid (below1 w (.cells (CoV x va vc fa fc ia ic) 30))
  have HX := hid (heap_alloc_new w (.cells (CoV x va vc fa fc ia ic) 30))
  have hx := fun i => cells_at HX.out i
  have HTH := hid (fun W => there_f x va fa ia vc fc ic k false W hk)
  clear hk
  go_enter Try.func29, Try.ntmps29
  go_wp2
  go_step3
  go_wp2_with (go_at_call 26; refine (HTH.out _).mono ?_; rintro e w1 ⟨rfl, hb1⟩; have HB1 := hid (after HB.out hb1.out HB.out.size); clear hb1)
  rw [Exit.noGoto_ret]
  refine bodyPost_ret (results_none rfl _ _ _) rfl ?_
  exact ⟨⟨_, rfl⟩, HB1⟩
set_option maxRecDepth 100000 in
set_option maxHeartbeats 8000000 in
theorem order_f (x : CoD) (va fa ia : Option Addr) (vc fc ic : Nat) (w0 w : World) (L : List Nat) (hs : x.ins.length < 1000000) (hC : RowM 13 InAt w0 ia x.ins) (hold : Below w0.heap.size w0 w) (hL : OrderIs x L) :
    Calls Try.prog 18 #[.agg (CoV x va vc fa fc ia ic)] w (ListPost w L) := by
  have HX := hid (boxes' w (CoV x va vc fa fc ia ic) 30 #[.slice none 0 0] 27)
  have HB := hid (below2 w (.cells (CoV x va vc fa fc ia ic) 30) (.cells #[.slice none 0 0] 27))
  have hx := fun i => cells_at HX.out.1 i
  rcases hL with ⟨h0, rfl⟩ | ⟨h0, l, s, hw, rfl⟩
  · have hin : inN x.ins.length (0 : Int) = false := by rw [h0]; rfl
    have HWN := hid (fun W => walk_none x va fa ia vc fc ic (.func (.func 31) #[] #[]) (.func (.func 32) #[] #[.pointer (some ⟨w.heap.size + 1, 0, none⟩)]) 0 W hin)
    clear hin hs hC hold h0
    go_enter Try.func18, Try.ntmps18
    go_wp2_with (first
      | (go_at_call 29; refine (HWN.out _).mono ?_; rintro e w3 ⟨⟨v3, rfl⟩, hb3⟩; have HB3 := hid (after HB.out hb3.out HB.out.size); have hc3 := cells_at (lay hb3.out HX.out.2); clear hb3 hx)
      | (go_at_call 33; refine (rev_nil _).mono ?_; rintro e w4 ⟨⟨v4, rfl⟩, rfl⟩))
    go_ret
    exact ⟨_, rfl, hid (World.ownsRow_nil _ _ _ _), HB3⟩
  · have hlen := hw.len h0
    obtain ⟨m2, hK⟩ := hw
    have hj : OrdJ (w.heap.size + 1) ((w.alloc (.cells (CoV x va vc fa fc ia ic) 30)).alloc (.cells #[.slice none 0 0] 27)) [] ((w.alloc (.cells (CoV x va vc fa fc ia ic) 30)).alloc (.cells #[.slice none 0 0] 27)) := ⟨Below.refl _ _, _, HX.out.2, World.ownsRow_nil _ _ _ _⟩
    have HWO := hid (walk_o x va fa ia vc fc ic w0 _ _ (w.heap.size + 1) 0 l s m2 hs hC (by have := hold.size; omega) h0 hj (hold.trans (HB.out.mono hold.size)) hK (by omega))
    have HLn : Hid (l.length < 1000000) := hid (by omega)
    have HL0 : Hid (l.length ≠ 0) := hid (fun e => by
      obtain ⟨s1, rfl, -⟩ := hK.start
      have := hlen.2; simp at this; omega)
    clear hs hC hold hK hj hlen
    go_enter Try.func18, Try.ntmps18
    go_wp2_with (first
      | (go_at_call 29; go_must (refine HWO.out.mono ?_); rintro e w3 ⟨⟨v3, rfl⟩, hp3⟩; obtain ⟨hb3, v, hv3, ho3⟩ := hp3.out; have HB3 := hid hb3; obtain ⟨g, cap, rfl, hg1, hg2, -⟩ := row_cell ho3 HL0.out; have HGL := hid hg2; have HV3 := hid hv3; have HO3 := hid ho3; have hc3 := cells_at HV3.out; clear hb3 hv3 ho3 hp3 hx hg1 hg2)
      | (go_at_call 33; go_must (refine (rev_f g (w.heap.size + 1 + 1) l.length cap l w3 HO3.out HLn.out).mono ?_); rintro e w4 ⟨⟨v4, rfl⟩, ho4, hg4⟩
         have HV4 := hid ((hg4.out.block (w.heap.size + 1) (Array.getElem?_eq_some_iff.1 HV3.out).1 (fun e => by injection e with e; have := HGL.out; omega)).trans HV3.out)
         have HO4 := hid ho4.out
         have HB4 := hid ((HB.out.trans (HB3.out.mono (by omega))).grown hg4.out (Nat.le_trans HB.out.size HB3.out.size) (fun k e => by cases e; have := HGL.out; omega))
         have hc4 := cells_at HV4.out
         clear ho4 hg4 hc3))
    go_ret
    exact ⟨_, rfl, hid (row_low (by rw [List.length_reverse]; exact HO4.out) (by omega)), HB4⟩
end Go.Proofs.Ytbmjhkimeeahhaa
