/- Where each stands in an order, as a map. Plain, and in memory. No conditions. -/
import Derived.Test.YtbmjhkimeeahhaaFlX
import Derived.Test.YtbmjhkimeeahhaaFlR
import Derived.Maps.OwnOps
import Derived.Maps.OwnSet
import Derived.Maps.Views
namespace Go.Proofs.Ytbmjhkimeeahhaa
open Go.RowKit Go.Maps
set_option linter.unusedVariables false
set_option linter.unusedSimpArgs false
def mapO (O : List Nat) : Nat → DataW Unit
  | 0 => .map []
  | i + 1 => (mapO O i).put (.int .i64 ((O[i]?).getD 0)) (.lit (.int .i64 i))
theorem mapO_succ {O : List Nat} {i k : Nat} (h : O[i]? = some k) : mapO O (i + 1) = (mapO O i).put (.int .i64 (k : Int)) (.lit (.int .i64 (i : Int))) := by simp [mapO, h]
theorem isKeyN (k : Int) : WideAt.IsKeyLit (.int .i64 k) := by simp [WideAt.IsKeyLit]
theorem mapO_tidy (O : List Nat) : ∀ k, Tidy (mapO O k)
  | 0 => tidy_empty
  | k + 1 => (mapO_tidy O k).put (isKeyN _) _
theorem mapO_has (O : List Nat) (v : Int) : ∀ j, j ≤ O.length → has (mapO O j) (.int .i64 v) = (O.take j).any (fun k => decide ((k : Int) = v))
  | 0, _ => by simp [mapO, has]
  | j + 1, hj => by
    obtain ⟨k, hk⟩ : ∃ k, O[j]? = some k := ⟨_, List.getElem?_eq_getElem (by omega)⟩
    rw [mapO_succ hk, List.take_add_one, hk]
    by_cases e : (k : Int) = v
    · subst e
      rw [has_put_same (mapO_tidy O j).isMap (isKeyN _)]
      simp
    · rw [has_put_other (by intro q; injection q with _ q; exact e q.symm), mapO_has O v j (by omega)]
      simp [e]
theorem mapO_at (O : List Nat) (hd : O.Nodup) (z : DataW Unit) : ∀ j, j ≤ O.length → ∀ i k, i < j → O[i]? = some k → (mapO O j).atKey (.int .i64 (k : Int)) z = .lit (.int .i64 (i : Int))
  | 0, _, i, k, h, _ => absurd h (by omega)
  | j + 1, hj, i, k, hi, hk => by
    obtain ⟨y, hy⟩ : ∃ y, O[j]? = some y := ⟨_, List.getElem?_eq_getElem (by omega)⟩
    rw [mapO_succ hy]
    by_cases e : i = j
    · subst e
      rw [hk] at hy
      cases hy
      rw [atKey_put_same (mapO_tidy O i).isMap (isKeyN _)]
    · have hne : k ≠ y := by
        intro q
        subst q
        obtain ⟨h1, h2⟩ := List.getElem?_eq_some_iff.1 hk
        obtain ⟨h3, h4⟩ := List.getElem?_eq_some_iff.1 hy
        exact (List.pairwise_iff_getElem.1 hd i j h1 h3 (by omega)) (h2.trans h4.symm)
      rw [atKey_put_other (by intro q; injection q with _ q; exact hne (by omega))]
      exact mapO_at O hd z j (by omega) i k (by omega) hk
/-- Where one stands. -/
def plO (O : List Nat) (v : Int) : Int := match (mapO O O.length).atKey (.int .i64 v) (.lit (.int .i64 0)) with | .lit (.int _ c) => c | _ => 0
theorem plO_at {O : List Nat} (hd : O.Nodup) {i k : Nat} (h : O[i]? = some k) : plO O (k : Int) = i := by
  unfold plO
  rw [mapO_at O hd _ O.length (Nat.le_refl _) i k (List.getElem?_eq_some_iff.1 h).1 h]
abbrev OwnPl (W : World) (B : Nat) (O : List Nat) (j : Nat) : Prop := W.ownsMap Try.prog 3 (plainElem (H := Unit) Try.prog 3) B j (mapO O j)
theorem int_wf {k : Int} (h0 : 0 ≤ k) (h1 : k < 1000000) : (Lit.int .i64 k).wf = true := by
  exact WalkArith.wf_i64 (by omega)
theorem look1 {W : World} {B : Nat} {O : List Nat} (h : OwnPl W B O O.length) {a : Int} (h0 : 0 ≤ a) (h1 : a < 1000000) : (Instr.lookup 69 (.map (some B)) (.int .i64 a) true).run Try.prog W = .ok (.tuple #[.int .i64 (plO O a), .bool (O.any (fun k => decide ((k : Int) = a)))]) W := by
  obtain ⟨v, ps, hrun, hv⟩ := h.look_ok (int_keyed Try.underlying3) Try.underlying69 (Try.zeroValue3 W) (plainElem_int Try.underlying3 (by decide)) (keyOf_int_mk Try.underlying3 (int_wf h0 h1))
  obtain ⟨c, rfl, hc, hwc⟩ := plainElem_int_inv Try.underlying3 hv
  rw [hrun, mapO_has O a _ (Nat.le_refl _), List.take_length]
  have : plO O a = c := by
    unfold plO
    rw [show (mapO O O.length).atKey (.int .i64 a) (.lit (.int .i64 0)) = .lit (.int .i64 c) from congrArg Prod.fst hc]
  rw [this]
theorem look2 {W : World} {B : Nat} {O : List Nat} (h : OwnPl W B O O.length) {a : Int} (h0 : 0 ≤ a) (h1 : a < 1000000) : (Instr.lookup 69 (.map (some B)) (.int .i64 a) false).run Try.prog W = .ok (.int .i64 (plO O a)) W := by
  obtain ⟨c, hrun, hc, hwc⟩ := h.lookup_int (int_keyed Try.underlying3) Try.underlying69 Try.underlying3 (Try.zeroValue3 W) (keyOf_int_mk Try.underlying3 (int_wf h0 h1))
  have : plO O a = c := by
    unfold plO
    rw [hc]
  rw [this]
  exact hrun
/-- Does an edge lead backwards? -/
def hitO (O : List Nat) (n : Nat) (p : Int × Int) : Bool := O.any (fun k => decide ((k : Int) = p.1)) && inN n p.2 && decide (plO O p.2 ≤ plO O p.1)
def headM (O : List Nat) (n : Nat) (l : List (Int × Int)) : Met := fun k => l.any (fun p => hitO O n p && decide (p.2 = (k : Int)))
theorem headM_nil (O : List Nat) (n : Nat) : headM O n [] = fun _ => false := rfl
theorem headM_no {O : List Nat} {n : Nat} {l : List (Int × Int)} {p : Int × Int} (h : hitO O n p = false) : headM O n (l ++ [p]) = headM O n l := by
  funext k
  simp [headM, h]
theorem headM_yes {O : List Nat} {n : Nat} {l : List (Int × Int)} {a : Int} {b : Nat} (h : hitO O n (a, (b : Int)) = true) : headM O n (l ++ [(a, (b : Int))]) = mark (headM O n l) b := by
  funext k
  simp only [headM, List.any_append, List.any_cons, List.any_nil, h, Bool.true_and, Bool.or_false, mark]
  by_cases e : k = b
  · subst e; simp
  · rw [show (k == b) = false by simp [e], show decide ((b : Int) = (k : Int)) = false by simp; omega]
    simp
/-- The loops of a code, by an order. -/
def loopsL (x : CoD) (O : List Nat) : List Nat := (List.range x.ins.length).filter (headM O x.ins.length (eds x.ins x.ins.length))
theorem eds_first {rs : List InD} : ∀ {n : Nat} {p : Int × Int}, n ≤ rs.length → p ∈ eds rs n → ∃ (i : Nat) (r : InD), i < n ∧ rs[i]? = some r ∧ p.1 = i ∧ p.2 ∈ nextL r i
  | 0, p, _, h => by simp [eds] at h
  | n + 1, p, hn, h => by
    obtain ⟨r, hr⟩ : ∃ r, rs[n]? = some r := ⟨_, List.getElem?_eq_getElem (by omega)⟩
    rw [eds_succ hr, List.mem_append] at h
    rcases h with h | h
    · obtain ⟨i, r', h1, h2⟩ := eds_first (by omega) h
      exact ⟨i, r', by omega, h2⟩
    · obtain ⟨y, hy, rfl⟩ := List.mem_map.1 h
      exact ⟨n, r, by omega, hr, rfl, hy⟩
theorem eds_mem {rs : List InD} : ∀ {n i : Nat} {r : InD} {y : Int}, i < n → rs[i]? = some r → y ∈ nextL r i → ((i : Int), y) ∈ eds rs n
  | 0, i, r, y, h, _, _ => absurd h (by omega)
  | n + 1, i, r, y, hi, hr, hy => by
    unfold eds
    rw [List.mem_append]
    by_cases e : i = n
    · subst e
      rw [hr]
      exact .inr (List.mem_map.2 ⟨y, hy, rfl⟩)
    · exact .inl (eds_mem (by omega) hr hy)
end Go.Proofs.Ytbmjhkimeeahhaa
