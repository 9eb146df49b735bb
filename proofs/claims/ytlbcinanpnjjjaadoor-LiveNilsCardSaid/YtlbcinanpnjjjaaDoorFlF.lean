/- What is reached, one behind the other; which lead to which. Plain. No conditions. -/
import Derived.Test.YtlbcinanpnjjjaaDoorFlA
namespace Go.Proofs.YtlbcinanpnjjjaaDoor
set_option linter.unusedVariables false
/-- What holds while a list of those that wait is gone through from its front: i of them are done, of the next one the edges 'es' are left. -/
structure Wait (nx : Nat → List Nat) (a : Nat) (i : Nat) (es : List Nat) (todo : List Nat) (out : Met) : Prop where
  same : ∀ x, out x = true ↔ x ∈ todo
  nodup : todo.Nodup
  first : todo[0]? = some a
  ways : ∀ x ∈ todo, Way nx a x
  done : ∀ j y, j < i → todo[j]? = some y → ∀ z ∈ nx y, z ∈ todo
  part : ∀ y, todo[i]? = some y → ∃ pre, nx y = pre ++ es ∧ ∀ z ∈ pre, z ∈ todo
section
variable {nx : Nat → List Nat} {a i : Nat} {es todo : List Nat} {out : Met}
theorem wait_start (nx : Nat → List Nat) (a : Nat) : Wait nx a 0 (nx a) [a] (mark (fun _ => false) a) := by
  refine ⟨fun x => ?_, by simp, rfl, fun x hx => ?_, fun j y hj => absurd hj (by omega), fun y hy => ?_⟩
  · simp [mark]
  · rw [List.mem_singleton] at hx
    rw [hx]
    exact .here a
  · simp at hy
    subst hy
    exact ⟨[], rfl, fun z hz => by cases hz⟩
/-- An edge to what waits, or has waited. -/
theorem Wait.skip {k : Nat} (h : Wait nx a i (k :: es) todo out) (hi : i < todo.length) (hk : out k = true) : Wait nx a i es todo out := by
  refine ⟨h.same, h.nodup, h.first, h.ways, h.done, fun y hy => ?_⟩
  obtain ⟨pre, e, hp⟩ := h.part y hy
  refine ⟨pre ++ [k], by simp [e], fun z hz => ?_⟩
  rcases List.mem_append.1 hz with hz | hz
  · exact hp z hz
  · rw [List.mem_singleton] at hz
    rw [hz]
    exact (h.same k).1 hk
/-- An edge to another. -/
theorem Wait.push {k : Nat} (h : Wait nx a i (k :: es) todo out) (hi : i < todo.length) (hk : out k = false) : Wait nx a i es (todo ++ [k]) (mark out k) := by
  have hkn : k ∉ todo := fun hm => by rw [(h.same k).2 hm] at hk; cases hk
  have hin : ∀ {j : Nat} {y : Nat}, j ≤ i → (todo ++ [k])[j]? = some y → todo[j]? = some y := fun {j y} hj hy => by
    rwa [List.getElem?_append_left (by omega)] at hy
  obtain ⟨y0, hy0⟩ : ∃ y, todo[i]? = some y := ⟨_, List.getElem?_eq_getElem hi⟩
  obtain ⟨pre0, e0, hp0⟩ := h.part y0 hy0
  have hw : Way nx a k := (h.ways y0 (List.mem_of_getElem? hy0)).trans (.step (by rw [e0]; simp) (.here k))
  refine ⟨fun x => ?_, ?_, ?_, fun x hx => ?_, fun j y hj hy z hz => ?_, fun y hy => ?_⟩
  · rw [List.mem_append, List.mem_singleton, ← h.same x]
    simp only [mark, Bool.or_eq_true, beq_iff_eq]
    exact Or.comm
  · rw [List.nodup_append]
    exact ⟨h.nodup, by simp, fun x hx y hy e => by rw [List.mem_singleton] at hy; subst hy; subst e; exact hkn hx⟩
  · have := (List.getElem?_eq_some_iff.1 h.first).1
    rw [List.getElem?_append_left this]
    exact h.first
  · rcases List.mem_append.1 hx with hx | hx
    · exact h.ways x hx
    · rw [List.mem_singleton] at hx
      rw [hx]; exact hw
  · exact List.mem_append_left _ (h.done j y hj (hin (by omega) hy) z hz)
  · obtain ⟨pre, e, hp⟩ := h.part y (hin (Nat.le_refl _) hy)
    refine ⟨pre ++ [k], by simp [e], fun z hz => ?_⟩
    rcases List.mem_append.1 hz with hz | hz
    · exact List.mem_append_left _ (hp z hz)
    · exact List.mem_append_right _ hz
/-- All edges of one are gone: the next. -/
theorem Wait.next (h : Wait nx a i [] todo out) (hi : i < todo.length) : ∀ y, todo[i + 1]? = some y → Wait nx a (i + 1) (nx y) todo out := by
  intro y hy
  refine ⟨h.same, h.nodup, h.first, h.ways, fun j z hj hz u hu => ?_, fun z hz => ?_⟩
  · by_cases hji : j < i
    · exact h.done j z hji hz u hu
    · obtain rfl : j = i := by omega
      obtain ⟨pre, e, hp⟩ := h.part z hz
      rw [List.append_nil] at e
      exact hp u (e ▸ hu)
  · rw [hy] at hz
    cases hz
    exact ⟨[], rfl, fun u hu => by cases hu⟩
/-- None waits: just what ways lead to is reached. -/
theorem Wait.end (h : Wait nx a i [] todo out) (hi : i + 1 = todo.length) (x : Nat) : out x = true ↔ Way nx a x := by
  rw [h.same]
  refine ⟨h.ways x, fun hw => ?_⟩
  have shut : ∀ y ∈ todo, ∀ z ∈ nx y, z ∈ todo := fun y hy z hz => by
    obtain ⟨j, hj, rfl⟩ := List.mem_iff_getElem.1 hy
    by_cases hji : j < i
    · exact h.done j _ hji (List.getElem?_eq_getElem hj) z hz
    · obtain rfl : j = i := by omega
      obtain ⟨pre, e, hp⟩ := h.part _ (List.getElem?_eq_getElem hj)
      rw [List.append_nil] at e
      exact hp z (e ▸ hz)
  have ha : a ∈ todo := List.mem_of_getElem? h.first
  have go : ∀ b c, Way nx b c → b ∈ todo → c ∈ todo := fun b c hw => by
    induction hw with
    | here b => exact fun h => h
    | step hb _ ih => exact fun hb' => ih (shut _ hb' _ hb)
  exact go a x hw ha
end
/-- Those that lead to one, of the first i, in order. -/
def leads (nx : Nat → List Nat) (b : Nat) : Nat → List Nat
  | 0 => []
  | i + 1 => leads nx b i ++ ((nx i).filter (· == b)).map (fun _ => i)
/-- And of the next one the edges 'pre'. -/
def leadsTo (nx : Nat → List Nat) (b i : Nat) (pre : List Nat) : List Nat := leads nx b i ++ (pre.filter (· == b)).map (fun _ => i)
theorem leads_all (nx : Nat → List Nat) (b i : Nat) : leadsTo nx b i (nx i) = leads nx b (i + 1) := rfl
theorem leads_none (nx : Nat → List Nat) (b i : Nat) : leadsTo nx b i [] = leads nx b i := by simp [leadsTo]
theorem leads_one (nx : Nat → List Nat) (b i k : Nat) (pre : List Nat) : leadsTo nx b i (pre ++ [k]) = if b = k then leadsTo nx b i pre ++ [i] else leadsTo nx b i pre := by
  unfold leadsTo
  rw [List.filter_append]
  by_cases h : b = k
  · rw [if_pos h]
    subst h
    simp
  · rw [if_neg h]
    have : (k == b) = false := by simp; exact fun e => h e.symm
    simp [List.filter, this]
end Go.Proofs.YtlbcinanpnjjjaaDoor
