/- LiveNils, as a call: it returns true, and leaves what was as it was. No conditions. -/
import Derived.Test.YtlbcinanpnjjjaaDoorLvU
import Derived.Test.YtlbcinanpnjjjaaDoorLvK
import Derived.Test.YtlbcinanpnjjjaaDoorLvI
namespace Go.Proofs.YtlbcinanpnjjjaaDoor
open Go.RowKit Go.Maps Go.Shelf
set_option linter.unusedVariables false
set_option linter.unusedSimpArgs false
attribute [local go_sem] Oper.semAt_some
section
variable {w W : World} {x : CoD} {va fa ia : Option Addr} {vc fc ic n nw P TA TB : Nat} {gA gB : Nat → Nat} {mA mB : Nat → Nat → Bool}
set_option maxRecDepth 100000 in
set_option maxHeartbeats 8000000 in
theorem those_no (v : Int) (b1 b2 : Nat) (h : LT w x va fa ia vc fc ic n nw P TA TB gA gB mA mB W) (hv : inN x.vs.length v = false) (h1 : W.heap[b1]? = some (.cells #[.pointer (some ⟨P, 0, none⟩)] 33 (0, 0))) (h2 : W.heap[b2]? = some (.cells #[.int .i64 v] 3 (0, 0))) (hn : x.ins.length < 1000000) :
    Calls Tryd.prog 31 #[.pointer (some ⟨P, 0, none⟩), .func (.func 35) #[] #[.pointer (some ⟨b1, 0, none⟩), .pointer (some ⟨b2, 0, none⟩)]] W fun e w' => e = .returned (.slice none 0 0) ∧ Hid (Below W.heap.size W w') := by
  have HH := hid (fun (k : Int) (q : Nat) => hold_no k v b1 b2 (h.drew q) hv (show (W.drewN q).heap[b1]? = _ from h1) (show (W.drewN q).heap[b2]? = _ from h2))
  have c7 := cells_at h.box 7
  have HN := hid hn
  have HB0 := hid (Below.refl W.heap.size W)
  clear h h1 h2 hn
  go_enter Tryd.func31, Tryd.ntmps31
  go_wp2
  go_loopg [5, 15] x.ins.length (fun gk v5 v15 wr => ∃ i : Nat, i ≤ x.ins.length ∧ gk = x.ins.length - i ∧ v15 = .int .i64 i ∧ v5 = .slice none 0 0 ∧ ∃ q, wr = W.drewN q)
  case atStart => exact ⟨0, by omega, by omega, rfl, rfl, 0, rfl⟩
  case round =>
    obtain ⟨i, hi, rfl, rfl, rfl, q, rfl⟩ := hrel
    have n9 : x.ins.length < 1000000 := HN.out
    by_cases hin : i < x.ins.length
    · have hin' : (i : Int) < (x.ins.length : Int) := by omega
      have H1 := hid (HH.out i q)
      go_wp2_with (go_at_call 35; refine H1.out.mono ?_; rintro e w' ⟨rfl, q2, rfl⟩)
      go_roundg (x.ins.length - (i + 1))
      case measure => omega
      case rel => exact ⟨i + 1, by omega, rfl, rfl, rfl, _, rfl⟩
    · have hin' : ¬ (i : Int) < (x.ins.length : Int) := by omega
      go_wp2
      go_ret
      exact ⟨rfl, hid (below_drewN (Below.refl _ _) _)⟩
theorem last_no (v : Int) (h : LT w x va fa ia vc fc ic n nw P TA TB gA gB mA mB W) (hv : inN x.vs.length v = false) (hn : x.ins.length < 1000000) :
    Calls Tryd.prog 15 #[.pointer (some ⟨P, 0, none⟩), .int .i64 v] W fun e w' => e = .returned (.slice none 0 0) ∧ Hid (Below W.heap.size W w') := by
  have hb := boxes' W #[.pointer (some ⟨P, 0, none⟩)] 33 #[.int .i64 v] 3
  have HB := hid (below2 W (.cells #[.pointer (some ⟨P, 0, none⟩)] 33) (.cells #[.int .i64 v] 3))
  have HT := hid (those_no v W.heap.size (W.heap.size + 1) (h.later HB.out) hv hb.1 hb.2 hn)
  have hc := cells_at hb.1 0
  clear h hb
  go_enter Tryd.func15, Tryd.ntmps15
  go_wp2_with (go_at_call 31; refine HT.out.mono ?_; rintro e w' ⟨rfl, hb'⟩; have HB2 := hid (after HB.out hb'.out HB.out.size); clear hb')
  go_ret
  exact ⟨rfl, HB2⟩
end
theorem res4 {x : Array Value} {b : Nat} {W : World} {v : Value} (h6 : x[6]?.getD undef = .pointer (some ⟨b, 0, none⟩)) (hb : W.heap[b]? = some (.cells #[v] 4 (0, 0))) :
    (results Tryd.f4 x).run Tryd.prog W = .ok v W := by
  have c0 : W.cell? ⟨b, 0, none⟩ = some v := cells_at hb 0
  simp [results, Tryd.results4, go_sem, h6, c0]
theorem leave4 {n S b : Nat} {Q : Ending → World → Prop} {W : World} {tm : Array Value} {v : Value} (hD : W.heap[S]? = some (.deferred (some []))) (h4 : tm[6]?.getD undef = .pointer (some ⟨b, 0, none⟩))
    (hb : W.heap[b]? = some (.cells #[v] 4 (0, 0))) (e : b ≠ S) (hQ : Q (.returned v) (W.putObj S (.deferred none))) :
    bodyPostM Fence.wide n Tryd.prog Tryd.f4 Q Exit.ret { tmps := tm, defers := [{ target := .collected S, args := #[] }] } W :=
  ⟨by simp, .inl ⟨_, _, rfl, run_takeDeferred hD, _, res4 h4 ((World.putObj_heap_other e).trans hb), hQ⟩⟩
/-- The law's two first boxes: the code, the answer. -/
structure SB (w : World) (cv : Array Value) (W : World) : Prop where
  bel : Below w.heap.size w W
  c : W.heap[w.heap.size]? = some (.cells cv 30 (0, 0))
  r : W.heap[w.heap.size + 1]? = some (.cells #[.bool false] 4 (0, 0))
section
variable {w W W' : World} {cv : Array Value}
theorem SB.start (w : World) (cv : Array Value) : SB w cv ((w.alloc (.cells cv 30)).alloc (.cells #[.bool false] 4)) := by
  have h := boxes' w cv 30 #[.bool false] 4
  exact ⟨below2 w _ _, h.1, h.2⟩
theorem SB.later (h : SB w cv W) (hb : Below W.heap.size W W') : SB w cv W' := ⟨after h.bel hb h.bel.size, lay hb h.c, lay hb h.r⟩
theorem SB.set (h : SB w cv W) (b : Bool) : Below w.heap.size w (W.setCell ⟨w.heap.size + 1, 0, none⟩ (.bool b)) ∧ (W.setCell ⟨w.heap.size + 1, 0, none⟩ (.bool b)).heap[w.heap.size + 1]? = some (.cells #[.bool b] 4 (0, 0)) :=
  ⟨h.bel.setCell (by show w.heap.size ≤ w.heap.size + 1; omega) _, by simp [World.setCell, Array.getElem?_modify, h.r]⟩
theorem SB.end_ {S : Nat} (h : SB w cv W) (hS : w.heap.size + 1 < S) (hK : W.heap[S]? = some (.deferred (some []))) :
    (W.setCell ⟨w.heap.size + 1, 0, none⟩ (.bool true)).heap[S]? = some (.deferred (some [])) ∧ (W.setCell ⟨w.heap.size + 1, 0, none⟩ (.bool true)).heap[w.heap.size + 1]? = some (.cells #[.bool true] 4 (0, 0)) ∧ w.heap.size + 1 ≠ S ∧
      Below w.heap.size w ((W.setCell ⟨w.heap.size + 1, 0, none⟩ (.bool true)).putObj S (.deferred none)) :=
  ⟨(Below.heap_setCell _ _ _ _ (by show S ≠ w.heap.size + 1; omega)).trans hK, (h.set true).2, by omega, (h.set true).1.trans (below_put _ (by omega))⟩
end
theorem range_none {g : Operand} {ps : Array Tmp} {body : Code} {Q : Exit → Act → World → Prop} {a : Act} {w : World} (n : Nat) (hn : 2 ≤ n) {gf : Nat} {lb : Array Value} {enc : Int → Array Value} {Nb : Nat}
    (hg : a.eval g = .func (.func gf) #[] lb) (eg : ∀ args w, (callFunc gf args).run Tryd.prog w = .ok (.enter gf args) w) (hseq : SeqLow (n - 1) gf lb enc Nb [] w) (hNb : Nb < w.heap.size) (hps : ∀ x, (enc x).size = ps.size)
    (I : World → Prop) (hI : ∀ A B, I A → Below w.heap.size A B → I B) (h0 : I w)
    (hdone : ∀ (W : World), I W → W.heap[w.heap.size]? = some (.deferred (some [])) → Q .normal { a with defers := { target := .collected w.heap.size, args := #[] } :: a.defers } W) :
    (Code.rangeFunc g ps .skip body).wpIn Fence.wide n Tryd.prog Q a w :=
  range_low n hn hg eg hseq hNb hps (fun _ W => I W) (fun _ _ _ => False) (fun _ A B h hb => hI A B h hb) (fun _ _ _ _ h _ => h) h0
    (fun x => { tmps := (ps.zip (enc x)).foldl (fun t (p, v) => t.setIfInBounds p v) a.tmps, defers := [] })
    (fun l x W K hK => by
      have e : (ps.zip (enc x)).size = ps.size := by rw [Array.size_zip, hps x, Nat.min_self]
      rw [e] at hK
      gi_wp2
      exact hK)
    (fun l pre x W h => absurd h (by simp))
    hdone (fun c pre W _ h _ => h.elim)
end Go.Proofs.YtlbcinanpnjjjaaDoor
