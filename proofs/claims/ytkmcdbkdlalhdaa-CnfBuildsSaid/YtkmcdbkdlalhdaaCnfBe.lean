/- A builder that is tried: what two of its calls want. Conditions: at most 100000 clauses. -/
import Derived.Test.YtkmcdbkdlalhdaaCnfBc
namespace Go.Proofs.Ytkmcdbkdlalhdaa
open Go.RowKit Go.Maps Go.Lib Go.Sort
set_option linter.unusedVariables false
set_option linter.unusedSimpArgs false
theorem neg_all (N : Int) (xs : List Int) : (neg xs).all (lit N) = xs.all (lit N) := by
  unfold neg
  rw [List.all_map]
  congr 1
  funext a
  exact lit_neg' N a
theorem imply_i (base g n c m cap m2 cap2 B : Nat) (N : Int) (A A2 A3 : Option Addr) (ls : List (List Int)) (xs ys : List Int) (w : World) (h : Bld w base g N A n c ls) (hb : base ≤ w.heap.size) (hi : Ints w B A2 m xs) (hi3 : Ints w B A3 m2 ys) (hB : B ≤ w.heap.size) (h0 : 0 ≤ N) (h1 : N ≤ 1000000) (hn : n ≤ 100000) (hm : m ≤ 50000) (hm2 : m2 ≤ 50000) :
    Calls Try.prog 22 #[bldP g, .slice A2 m cap, .slice A3 m2 cap2] w (ClPost w base g N A (putF N ls (neg xs ++ ys))) := by
  cases hx : xs.all (lit N)
  · have e : putF N ls (neg xs ++ ys) = ls := by
      unfold putF
      rw [List.all_append, neg_all, hx]
      simp
    rw [e]
    exact imply_no base g n c m cap m2 cap2 B N A A2 A3 ls xs w h hi hB h0 h1 (by omega) hx
  · exact imply_yes base g n c m cap m2 cap2 B N A A2 A3 ls xs ys w h hb hi hi3 hB h0 h1 hn hm hm2 hx
theorem light_at {xs : List Int} {k : Nat} {x : Int} (h : light xs = true) (hx : xs[k]? = some x) : IntKind.i64.wrap (-x) = -x := by
  simp [light] at h
  have := h.2 x (List.mem_of_getElem? hx)
  simp [small] at this
  rw [IntKind.wrap_i64]; omega
theorem own_intsP {W : World} {b n c : Nat} {A : Option Addr} {xs : List Int} {P : Nat → Prop} (h : Own W b A n c xs) (hp : ∀ j, b ≤ j → P j) : IntsP W P (.slice A n c) xs := by
  have hl := h.len
  subst hl
  refine ⟨A, c, rfl, h.cap.1, h.cap.2, by simp, ?_⟩
  rcases h.2 with ⟨e, h0⟩ | ⟨g, cap, cur, e, h1, h2, h3, h4, h5, h6⟩
  · exact .inl h0
  · right
    injection e with e e1
    refine ⟨g, 0, e, hp g h1, (Array.getElem?_eq_some_iff.1 h2).1, fun j u hu => ?_⟩
    rw [cells_at h2, ← h6, List.getElem?_take] at *
    rw [Nat.zero_add]
    split at hu
    · simpa using hu
    · cases hu
theorem two_intsP {W : World} {j : Nat} {a d : Int} {P : Nat → Prop} (hj : W.heap[j]? = some (.cells #[.int .i64 a, .int .i64 d] 3 (0, 0))) (hp : P j) : IntsP W P (.slice (some ⟨j, 0, none⟩) 2 2) [a, d] := by
  refine ⟨_, 2, rfl, Nat.le_refl _, by omega, rfl, .inr ⟨j, 0, rfl, hp, (Array.getElem?_eq_some_iff.1 hj).1, fun i u hu => ?_⟩⟩
  rw [cells_at hj, Nat.zero_add]
  rcases i with _ | _ | i
  · simpa using hu
  · simpa using hu
  · simp at hu
/-- The statement's put of a clause that was made behind B. -/
def PutNew (W : World) (P : Nat → Prop) (N : Int) (ls : List (List Int)) (k : Nat) (e : Ending) (w' : World) : Prop :=
  ∃ A6 n6 c6, e = .returned (form N A6 n6 c6) ∧ n6 ≤ k + 1 ∧ Hid (ListsP w' P A6 n6 ls) ∧ Hid (Below W.heap.size W w')
theorem putp_new (N : Int) (ls : List (List Int)) (xs : List Int) (P : Nat → Prop) (B : Nat) (A A5 : Option Addr) (n c n5 c5 : Nat) (w : World) (hL : ListsP w P A n ls) (hI : IntsP w P (.slice A5 n5 c5) xs) (h0 : 0 ≤ N ∧ N ≤ 100000) (hn : n ≤ 100000) (hn5 : n5 ≤ 200000) (hB : B ≤ w.heap.size) (hP : ∀ b, B ≤ b → P b) :
    Calls Try.prog 21 #[form N A n c, .slice A5 n5 c5] w (PutNew w P N (putF N ls xs) n) := by
  refine (putp_i N ls xs P A A5 n c n5 c5 w hL hI h0 hn hn5).mono ?_
  rintro e w' ⟨A6, n6, c6, rfl, h6, hL6, hb⟩
  refine ⟨A6, n6, c6, rfl, h6, hid (hL6.out.imp fun b hl hp => ?_), hb⟩
  rcases hp with hp | hp
  · exact hp
  · exact hP b (Nat.le_trans hB hp)
theorem step_append_ints {ops : Array Oper} {o : Oper} {a : Act} {w : World} {K : Act → World → Prop} {Q : Exit → Act → World → Prop} {E : Prop} (hgd : o.guard = none) (s x : Operand)
    (ho : o.op = .call { callee := .builtin .append, args := #[s, x], argTypes := #[40, 40] })
    (base n c m c2 B : Nat) (A A2 : Option Addr) (xs ys : List Int) (hs : a.eval s = .slice A n c) (hx : a.eval x = .slice A2 m c2) (h : Own w base A n c xs) (hy : Ints w B A2 m ys) (hb : base ≤ w.heap.size) (hnm : n + m ≤ 400000)
    (hK : ∀ A' c' w', Own w' base A' (n + m) c' (xs ++ ys) → Below base w w' → w.grownBy w' (Value.ownBlock (.slice A n c)) → K (a.put o.dst (.slice A' (n + m) c')) w') :
    if Region.wanted o (yielded ops a.tmps) = true then Oper.wp Try.prog o a w K Q else E := by
  have hw : Region.wanted o (yielded ops a.tmps) = true := by simp [Region.wanted, hgd]
  rw [if_pos hw]
  obtain ⟨A', c', w', hr, h1, h2, h3⟩ := run_append_ints w base n c m c2 B A A2 xs ys o.type h hy hb hnm
  unfold Oper.wp execOp
  simp only [ho, resolve, invoke, builtin, Sem.run_bind, Sem.run_pure, Result.andThen_ok, List.map_toArray, List.map_cons, List.map_nil, hs, hx, hr]
  exact hK A' c' w' h1 h2 h3
end Go.Proofs.Ytkmcdbkdlalhdaa
