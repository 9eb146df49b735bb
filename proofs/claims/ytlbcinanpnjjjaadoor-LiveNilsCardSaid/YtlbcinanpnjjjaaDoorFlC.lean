/- What may come behind an instruction, by the program and by the reference; is an instruction there? No conditions but a place below a million. -/
import Derived.Test.YtlbcinanpnjjjaaDoorFlB
namespace Go.Proofs.YtlbcinanpnjjjaaDoor
open Go.RowKit Go.Maps
set_option linter.unusedVariables false
set_option linter.unusedSimpArgs false
/-- The places that may come behind. -/
def nextL (r : InD) (q : Int) : List Int :=
  if r.op = 16 then [r.tt] else if r.op = 17 then (if r.tt = r.el then [r.tt] else [r.tt, r.el]) else if r.op = 18 then [] else [q + 1]
theorem nextL_16 {d a b tt el f n l c : Int} {sg : ByteArray} {xs ms : List Int} {q : Int} : nextL ⟨16, d, a, b, tt, el, f, n, l, c, sg, xs, ms⟩ q = [tt] := by simp [nextL]
theorem nextL_17a {d a b tt el f n l c : Int} {sg : ByteArray} {xs ms : List Int} {q : Int} (h : tt = el) : nextL ⟨17, d, a, b, tt, el, f, n, l, c, sg, xs, ms⟩ q = [tt] := by subst h; simp [nextL]
theorem nextL_17b {d a b tt el f n l c : Int} {sg : ByteArray} {xs ms : List Int} {q : Int} (h : ¬ tt = el) : nextL ⟨17, d, a, b, tt, el, f, n, l, c, sg, xs, ms⟩ q = [tt, el] := by simp [nextL, h]
theorem nextL_18 {d a b tt el f n l c : Int} {sg : ByteArray} {xs ms : List Int} {q : Int} : nextL ⟨18, d, a, b, tt, el, f, n, l, c, sg, xs, ms⟩ q = [] := by simp [nextL]
theorem nextL_else {op : Int} {d a b tt el f n l c : Int} {sg : ByteArray} {xs ms : List Int} {q : Int} (h1 : ¬ op = 16) (h2 : ¬ op = 17) (h3 : ¬ op = 18) : nextL ⟨op, d, a, b, tt, el, f, n, l, c, sg, xs, ms⟩ q = [q + 1] := by simp [nextL, h1, h2, h3]
theorem new_ints (w : World) (o : Obj) (L : List Int) (cs : Array Value) (hc : cs.toList = L.map (Value.int .i64)) (n : Nat) (hn : L.length = n) (hl : L.length ≤ 9223372036854775807) : IsInts ((w.alloc o).alloc (.cells cs 3)) (.slice (some ⟨w.heap.size + 1, 0, none⟩) n n) L := by
  subst hn
  exact ⟨_, _, rfl, ints_new (w.alloc o) L cs _ (by simp) hc hl⟩
theorem ints_nil (W : World) : IsInts W (.slice none 0 0) [] := ⟨none, 0, rfl, by simp, fun i x hx => by simp at hx⟩
set_option maxRecDepth 100000 in
set_option maxHeartbeats 4000000 in
theorem rnext_g (r : InD) (q : Int) (h0 : 0 ≤ q) (h1 : q < 1000000) (ao mo : Option Addr) (ac mc : Nat) (w : World) :
    Calls Tryd.prog 53 #[.agg (InV r ao ac mo mc), .int .i64 q] w fun e w' => ∃ v, e = .returned v ∧ Hid (IsInts w' v (nextL r q)) ∧ Hid (Below w.heap.size w w') := by
  obtain ⟨op, d, a, b, tt, el, f, n, l, c, sg, xs, ms⟩ := r
  have HB := hid (below2 w)
  have HB1 := hid (below1 w)
  by_cases o16 : op = 16
  · subst o16
    go_enter Tryd.func53, Tryd.ntmps53
    go_wp2
    go_ret
    exact ⟨_, rfl, hid (by rw [nextL_16]; exact new_ints _ _ [tt] _ rfl 1 rfl (by simp)), hid (HB.out _ _)⟩
  by_cases o17 : op = 17
  · subst o17
    by_cases e : tt = el
    · have e' : (tt == el) = true := by simpa using e
      have HE := hid e
      clear e
      go_enter Tryd.func53, Tryd.ntmps53
      go_wp2
      go_ret
      exact ⟨_, rfl, hid (by rw [nextL_17a HE.out]; exact new_ints _ _ [tt] _ rfl 1 rfl (by simp)), hid (HB.out _ _)⟩
    · have e' : (tt == el) = false := by simpa using e
      have HE := hid e
      clear e
      go_enter Tryd.func53, Tryd.ntmps53
      go_wp2
      go_ret
      exact ⟨_, rfl, hid (by rw [nextL_17b HE.out]; exact new_ints _ _ [tt, el] _ rfl 2 rfl (by simp)), hid (HB.out _ _)⟩
  by_cases o18 : op = 18
  · subst o18
    go_enter Tryd.func53, Tryd.ntmps53
    go_wp2
    go_ret
    exact ⟨_, rfl, hid (by rw [nextL_18]; exact ints_nil _), hid (HB1.out _)⟩
  have hwr : IntKind.i64.wrap (q + 1) = q + 1 := by rw [IntKind.wrap_i64]; omega
  go_enter Tryd.func53, Tryd.ntmps53
  go_wp2
  go_ret
  exact ⟨_, rfl, hid (by rw [nextL_else o16 o17 o18]; exact new_ints _ _ [q + 1] _ rfl 1 rfl (by simp)), hid (HB.out _ _)⟩
set_option maxRecDepth 100000 in
set_option maxHeartbeats 4000000 in
theorem next_g (r : InD) (q : Int) (h0 : 0 ≤ q) (h1 : q < 1000000) (ao mo : Option Addr) (ac mc : Nat) (w : World) :
    Calls Tryd.prog 43 #[.agg (InV r ao ac mo mc), .int .i64 q] w fun e w' => ∃ v, e = .returned v ∧ Hid (IsInts w' v (nextL r q)) ∧ Hid (Below w.heap.size w w') := by
  obtain ⟨op, d, a, b, tt, el, f, n, l, c, sg, xs, ms⟩ := r
  have HB := hid (below2 w)
  have HB1 := hid (below1 w)
  by_cases o16 : op = 16
  · subst o16
    go_enter Tryd.func43, Tryd.ntmps43
    go_wp2
    go_ret
    exact ⟨_, rfl, hid (by rw [nextL_16]; exact new_ints _ _ [tt] _ rfl 1 rfl (by simp)), hid (HB.out _ _)⟩
  by_cases o17 : op = 17
  · subst o17
    by_cases e : tt = el
    · have e' : (tt == el) = true := by simpa using e
      have HE := hid e
      clear e
      go_enter Tryd.func43, Tryd.ntmps43
      go_wp2
      go_ret
      exact ⟨_, rfl, hid (by rw [nextL_17a HE.out]; exact new_ints _ _ [tt] _ rfl 1 rfl (by simp)), hid (HB.out _ _)⟩
    · have e' : (tt == el) = false := by simpa using e
      have HE := hid e
      clear e
      go_enter Tryd.func43, Tryd.ntmps43
      go_wp2
      go_ret
      exact ⟨_, rfl, hid (by rw [nextL_17b HE.out]; exact new_ints _ _ [tt, el] _ rfl 2 rfl (by simp)), hid (HB.out _ _)⟩
  by_cases o18 : op = 18
  · subst o18
    go_enter Tryd.func43, Tryd.ntmps43
    go_wp2
    go_ret
    exact ⟨_, rfl, hid (by rw [nextL_18]; exact ints_nil _), hid (HB1.out _)⟩
  have hwr : IntKind.i64.wrap (q + 1) = q + 1 := by rw [IntKind.wrap_i64]; omega
  have hq : (q == 9223372036854775807) = false := by simp; omega
  go_enter Tryd.func43, Tryd.ntmps43
  go_wp2
  go_ret
  exact ⟨_, rfl, hid (by rw [nextL_else o16 o17 o18]; exact new_ints _ _ [q + 1] _ rfl 1 rfl (by simp)), hid (HB.out _ _)⟩
end Go.Proofs.YtlbcinanpnjjjaaDoor
