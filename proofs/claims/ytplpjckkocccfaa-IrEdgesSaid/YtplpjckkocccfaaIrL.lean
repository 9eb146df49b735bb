/- What may come behind an instruction, and what it writes by the reference. Condition: a place from 0 to 10000. -/
import Derived.Test.YtplpjckkocccfaaIrK
import Derived.Test.YtplpjckkocccfaaIrI
namespace Go.Proofs.Ytplpjckkocccfaa
open Go.RowKit Go.Maps
set_option linter.unusedVariables false
set_option linter.unusedSimpArgs false
def IsRow (W : World) (v : Value) (xs : List Int) : Prop := ∃ a cap, v = .slice a xs.length cap ∧ (xs ≠ [] → ∃ b, a = some ⟨b, 0, none⟩ ∧ b < W.heap.size ∧ Row W b xs)
theorem IsRow.below {W W' : World} {v : Value} {xs : List Int} (h : IsRow W v xs) (hb : Below W.heap.size W W') : IsRow W' v xs := by
  obtain ⟨a, cap, rfl, h⟩ := h
  refine ⟨a, cap, rfl, fun hx => ?_⟩
  obtain ⟨b, rfl, hlt, hr⟩ := h hx
  exact ⟨b, rfl, Nat.lt_of_lt_of_le hlt hb.size, fun j x hj => (hb.cell (p := ⟨b, j, none⟩) hlt).trans (hr j x hj)⟩
theorem IsRow.drew {W : World} {v : Value} {xs : List Int} (h : IsRow W v xs) : IsRow W.drew v xs := h
theorem numbers_t (w : World) (u v : Value) (xs : List Int) (hu : IsRow w u xs) (hv : IsRow w v xs) (hl : xs.length ≤ 1000) :
    Calls Try.prog 8 #[u, v] w fun e w' => e = .returned (.bool true) ∧ Hid (Below w.heap.size w w') := by
  obtain ⟨a, cap, rfl, h1⟩ := hu
  obtain ⟨a2, cap2, rfl, h2⟩ := hv
  by_cases hx : xs = []
  · subst hx; exact numbers_0 _ _ _ _ _
  · obtain ⟨b, rfl, -, r1⟩ := h1 hx
    obtain ⟨b2, rfl, -, r2⟩ := h2 hx
    exact numbers_a xs b b2 cap cap2 w r1 r2 hl
theorem row_new (w : World) (o : Obj) (xs : List Int) (cs : Array Value) (h : cs.toList = xs.map (Value.int .i64)) : Row ((w.alloc o).alloc (.cells cs 3)) (w.heap.size + 1) xs := by
  intro j x hj
  have hn := heap_alloc_new (w.alloc o) (.cells cs 3)
  rw [World.size_alloc] at hn
  rw [cells_at hn, ← Array.getElem?_toList, h, List.getElem?_map, hj]
  rfl
theorem isRow_new (w : World) (o : Obj) (xs : List Int) (cs : Array Value) (cap : Nat) (h : cs.toList = xs.map (Value.int .i64)) : IsRow ((w.alloc o).alloc (.cells cs 3)) (.slice (some ⟨w.heap.size + 1, 0, none⟩) xs.length cap) xs :=
  ⟨_, _, rfl, fun _ => ⟨_, rfl, by simp, row_new w o xs cs h⟩⟩
theorem isRow_nil (W : World) : IsRow W n0 [] := ⟨_, _, rfl, fun h => absurd rfl h⟩
def nxt (op p to el : Int) : List Int := if op = 16 then [to] else if op = 17 then (if to = el then [to] else [to, el]) else if op = 18 then [] else [p + 1]
theorem nxt1 {op p to el : Int} (h : (op == 16) = true) : nxt op p to el = [to] := by simp at h; simp [nxt, h]
theorem nxt2 {op p to el : Int} (h : (op == 17) = true) (e : (to == el) = true) : nxt op p to el = [to] := by simp at h e; simp [nxt, h, e]
theorem nxt3 {op p to el : Int} (h : (op == 17) = true) (e : (to == el) = false) : nxt op p to el = [to, el] := by simp at h e; simp [nxt, h, e]
theorem nxt4 {op p to el : Int} (h : (op == 18) = true) : nxt op p to el = [] := by simp at h; simp [nxt, h]
theorem nxt5 {op p to el : Int} (h1 : (op == 16) = false) (h2 : (op == 17) = false) (h3 : (op == 18) = false) : nxt op p to el = [p + 1] := by simp at h1 h2 h3; simp [nxt, h1, h2, h3]
theorem ops_16 {op : Int} (h : (op == 17) = true) : (op == 16) = false := by simp at h; subst h; decide
theorem ops_18 {op : Int} (h : (op == 18) = true) : (op == 16) = false ∧ (op == 17) = false := by simp at h; subst h; decide
theorem no_max {p : Int} (h : p ≤ 10000) : (p == 9223372036854775807) = false := by simp; omega
set_option maxHeartbeats 4000000 in
theorem next_i (op d a b to el p : Int) (c4 c5 c6 args c8 c11 c12 : Value) (w : World) (h0 : 0 ≤ p) (h1 : p ≤ 10000) : Calls Try.prog 11 #[ins op d a b c4 c5 c6 args c8 to el c11 c12, .int .i64 p] w fun e w' =>
    ∃ v, e = .returned v ∧ Hid (IsRow w' v (nxt op p to el)) ∧ Hid (Below w.heap.size w w') := by
  have hm := no_max h1
  have HB1 := hid (below1 w)
  have HB2 := hid (below2 w)
  cases e16 : (op == 16)
  case true =>
    rw [nxt1 e16]
    go_enter Try.func11, Try.ntmps11
    go_wp2
    go_ret
    exact ⟨_, rfl, hid (isRow_new w _ [to] _ 1 rfl), HB2.out _ _⟩
  case false =>
    cases e17 : (op == 17)
    case true =>
      cases et : (to == el)
      case true =>
        rw [nxt2 e17 et]
        go_enter Try.func11, Try.ntmps11
        go_wp2
        go_ret
        exact ⟨_, rfl, hid (isRow_new w _ [to] _ 1 rfl), HB2.out _ _⟩
      case false =>
        rw [nxt3 e17 et]
        go_enter Try.func11, Try.ntmps11
        go_wp2
        go_ret
        exact ⟨_, rfl, hid (isRow_new w _ [to, el] _ 2 rfl), HB2.out _ _⟩
    case false =>
      cases e18 : (op == 18)
      case true =>
        rw [nxt4 e18]
        go_enter Try.func11, Try.ntmps11
        go_wp2
        go_ret
        exact ⟨_, rfl, hid (isRow_nil _), HB1.out _⟩
      case false =>
        rw [nxt5 e16 e17 e18]
        go_enter Try.func11, Try.ntmps11
        go_wp2
        go_ret
        exact ⟨_, rfl, hid (isRow_new w _ [p + 1] _ 1 rfl), HB2.out _ _⟩
set_option maxHeartbeats 4000000 in
theorem rnext_i (op d a b to el p : Int) (c4 c5 c6 args c8 c11 c12 : Value) (w : World) (h0 : 0 ≤ p) (h1 : p ≤ 10000) : Calls Try.prog 12 #[ins op d a b c4 c5 c6 args c8 to el c11 c12, .int .i64 p] w fun e w' =>
    ∃ v, e = .returned v ∧ Hid (IsRow w' v (nxt op p to el)) ∧ Hid (Below w.heap.size w w') := by
  have HB1 := hid (below1 w)
  have HB2 := hid (below2 w)
  cases e16 : (op == 16)
  case true =>
    rw [nxt1 e16]
    go_enter Try.func12, Try.ntmps12
    go_wp2
    go_ret
    exact ⟨_, rfl, hid (isRow_new w _ [to] _ 1 rfl), HB2.out _ _⟩
  case false =>
    cases e17 : (op == 17)
    case true =>
      cases et : (to == el)
      case true =>
        rw [nxt2 e17 et]
        go_enter Try.func12, Try.ntmps12
        go_wp2
        go_ret
        exact ⟨_, rfl, hid (isRow_new w _ [to] _ 1 rfl), HB2.out _ _⟩
      case false =>
        rw [nxt3 e17 et]
        go_enter Try.func12, Try.ntmps12
        go_wp2
        go_ret
        exact ⟨_, rfl, hid (isRow_new w _ [to, el] _ 2 rfl), HB2.out _ _⟩
    case false =>
      cases e18 : (op == 18)
      case true =>
        rw [nxt4 e18]
        go_enter Try.func12, Try.ntmps12
        go_wp2
        go_ret
        exact ⟨_, rfl, hid (isRow_nil _), HB1.out _⟩
      case false =>
        rw [nxt5 e16 e17 e18]
        go_enter Try.func12, Try.ntmps12
        go_wp2
        go_ret
        exact ⟨_, rfl, hid (isRow_new w _ [p + 1] _ 1 rfl), HB2.out _ _⟩
set_option maxHeartbeats 4000000 in
theorem rwrites_i (op d a b to el : Int) (c4 c5 c6 args c8 c11 c12 : Value) (w : World) : Calls Try.prog 7 #[ins op d a b c4 c5 c6 args c8 to el c11 c12] w fun e w' => e = .returned (.tuple #[.int .i64 (wrD op d), .bool (wrB op)]) ∧ Hid (Below w.heap.size w w') := by
  have HB2 := hid (below2 w)
  have HR := hid (fun o => row_new w o wrOps _ rfl)
  cases hB : wrB op
  case true =>
    have hD : wrD op d = d := by simp [wrD, hB]
    rw [hD]
    have HC := hid (show wrOps.contains op = true by simpa [wrB] using hB)
    clear hD hB
    go_enter Try.func7, Try.ntmps7
    go_wp2_with (go_at_call 20; refine (in_a op wrOps _ _ true _ (HR.out _) (by decide) HC.out).mono ?_; rintro e w' ⟨rfl, rfl⟩)
    all_goals exact bodyPost_ret (v := .tuple #[.int .i64 d, .bool true]) (by simp [results, Try.results7, go_sem]) rfl ⟨rfl, HB2.out _ _⟩
  case false =>
    have hD : wrD op d = 0 := by simp [wrD, hB]
    rw [hD]
    have HC := hid (show wrOps.contains op = false by simpa [wrB] using hB)
    clear hD hB
    go_enter Try.func7, Try.ntmps7
    go_wp2_with (go_at_call 20; refine (in_a op wrOps _ _ false _ (HR.out _) (by decide) HC.out).mono ?_; rintro e w' ⟨rfl, rfl⟩)
    all_goals exact bodyPost_ret (v := .tuple #[.int .i64 0, .bool false]) (by simp [results, Try.results7, go_sem]) rfl ⟨rfl, HB2.out _ _⟩
end Go.Proofs.Ytplpjckkocccfaa
