/- A walk as deep as it can go: what it meets, and leaves, as a relation. Plain. No conditions. -/
import Derived.Test.YtlbcinanpnjjjaaDoorProg
namespace Go.Proofs.YtlbcinanpnjjjaaDoor
set_option linter.unusedVariables false
/-- What was met. -/
abbrev Met := Nat → Bool
def mark (m : Met) (k : Nat) : Met := fun x => x == k || m x
section
variable (nx : Nat → List Nat)
/-- Edges are gone one by one: what is left, and what is met. -/
inductive Kids : List Nat → Met → List Nat → List Nat → Met → Prop
  | nil (m : Met) : Kids [] m [] [] m
  | skip {k : Nat} {es : List Nat} {m m' : Met} {l s : List Nat} (h : m k = true) (hk : Kids es m l s m') : Kids (k :: es) m l s m'
  | go {k : Nat} {es : List Nat} {m m1 m2 : Met} {l1 s1 l2 s2 : List Nat} (h : m k = false) (h1 : Kids (nx k) (mark m k) l1 s1 m1) (h2 : Kids es m1 l2 s2 m2) : Kids (k :: es) m (l1 ++ k :: l2) (k :: (s1 ++ s2)) m2
/-- What is still to be done of a stack. -/
inductive Run : List (Nat × List Nat) → Met → List Nat → List Nat → Met → Prop
  | nil (m : Met) : Run [] m [] [] m
  | cons {n : Nat} {es : List Nat} {S : List (Nat × List Nat)} {m m1 m2 : Met} {l1 s1 l2 s2 : List Nat} (h1 : Kids nx es m l1 s1 m1) (h2 : Run S m1 l2 s2 m2) : Run ((n, es) :: S) m (l1 ++ n :: l2) (s1 ++ s2) m2
variable {nx}
theorem Kids.fun' : ∀ {es m l s m' l2 s2 m2}, Kids nx es m l s m' → Kids nx es m l2 s2 m2 → l = l2 ∧ s = s2 ∧ m' = m2 := by
  intro es m l s m' l2 s2 m2 h
  induction h generalizing l2 s2 m2 with
  | nil m => intro h; cases h; exact ⟨rfl, rfl, rfl⟩
  | skip h hk ih =>
    intro h2
    cases h2 with
    | skip h' hk' => exact ih hk'
    | go h' h1 h2 => rw [h] at h'; cases h'
  | go h h1 h2 ih1 ih2 =>
    intro h3
    cases h3 with
    | skip h' hk' => rw [h] at h'; cases h'
    | go h' h1' h2' =>
      obtain ⟨rfl, rfl, rfl⟩ := ih1 h1'
      obtain ⟨rfl, rfl, rfl⟩ := ih2 h2'
      exact ⟨rfl, rfl, rfl⟩
/-- What is met stays so; what is new was met on the way. -/
theorem Kids.met : ∀ {es m l s m'}, Kids nx es m l s m' → (∀ x, m' x = (m x || s.contains x)) := by
  intro es m l s m' h
  induction h with
  | nil m => intro x; simp
  | skip h hk ih => exact ih
  | go h h1 h2 ih1 ih2 =>
    intro x
    rw [ih2 x, ih1 x, mark]
    simp only [List.contains_cons, List.contains_append]
    generalize List.contains _ x = p
    generalize List.contains _ x = q
    rename_i k _ m _ _ _ _ _ _
    cases (x == k) <;> cases m x <;> cases p <;> cases q <;> rfl
/-- What is left is what is met, in another order. -/
theorem Kids.perm : ∀ {es m l s m'}, Kids nx es m l s m' → ∀ x, x ∈ l ↔ x ∈ s := by
  intro es m l s m' h
  induction h with
  | nil m => intro x; simp
  | skip h hk ih => exact ih
  | go h h1 h2 ih1 ih2 =>
    intro x
    simp only [List.mem_append, List.mem_cons, ih1 x, ih2 x]
    constructor
    · rintro (h | h | h) <;> simp [h]
    · rintro (h | h | h) <;> simp [h]
theorem Kids.lens : ∀ {es m l s m'}, Kids nx es m l s m' → l.length = s.length := by
  intro es m l s m' h
  induction h with
  | nil m => rfl
  | skip h hk ih => exact ih
  | go h h1 h2 ih1 ih2 => simp [ih1, ih2]; omega
/-- None that was met is met again, and none twice. -/
theorem Kids.fresh : ∀ {es m l s m'}, Kids nx es m l s m' → (∀ x ∈ s, m x = false) ∧ s.Nodup := by
  intro es m l s m' h
  induction h with
  | nil m => exact ⟨fun x h => (by cases h), List.nodup_nil⟩
  | skip h hk ih => exact ih
  | @go k es m m1 m2 l1 s1 l2 s2 h h1 h2 ih1 ih2 =>
    have hm1 := h1.met
    have a1 : ∀ x ∈ s1, x ≠ k ∧ m x = false := fun x hx => by
      have := ih1.1 x hx
      simp [mark] at this
      exact this
    have a2 : ∀ x ∈ s2, x ≠ k ∧ m x = false ∧ x ∉ s1 := fun x hx => by
      have := ih2.1 x hx
      rw [hm1 x] at this
      simp [mark] at this
      exact ⟨this.1.1, this.1.2, this.2⟩
    refine ⟨fun x hx => ?_, ?_⟩
    · simp only [List.mem_cons, List.mem_append] at hx
      rcases hx with rfl | hx | hx
      · exact h
      · exact (a1 x hx).2
      · exact (a2 x hx).2.1
    · rw [List.nodup_cons]
      refine ⟨fun hk => ?_, ?_⟩
      · rcases List.mem_append.1 hk with hk | hk
        · exact (a1 k hk).1 rfl
        · exact (a2 k hk).1 rfl
      · rw [List.nodup_append]
        exact ⟨ih1.2, ih2.2, fun x hx y hy e => (a2 y hy).2.2 (e ▸ hx)⟩
/-- Where the edges lead is met. -/
theorem Kids.shut : ∀ {es m l s m'}, Kids nx es m l s m' → (∀ x ∈ es, m' x = true) ∧ ∀ x ∈ s, ∀ y ∈ nx x, m' y = true := by
  intro es m l s m' h
  induction h with
  | nil m => exact ⟨fun x h => (by cases h), fun x h => (by cases h)⟩
  | @skip k es m m' l s h hk ih =>
    refine ⟨fun x hx => ?_, ih.2⟩
    rcases List.mem_cons.1 hx with rfl | hx
    · rw [hk.met, h]; rfl
    · exact ih.1 x hx
  | @go k es m m1 m2 l1 s1 l2 s2 h h1 h2 ih1 ih2 =>
    have up : ∀ x, m1 x = true → m2 x = true := fun x hx => by rw [h2.met, hx]; rfl
    have hk : m1 k = true := by rw [h1.met, mark]; simp
    refine ⟨fun x hx => ?_, fun x hx y hy => ?_⟩
    · rcases List.mem_cons.1 hx with rfl | hx
      · exact up _ hk
      · exact ih2.1 x hx
    · simp only [List.mem_cons, List.mem_append] at hx
      rcases hx with rfl | hx | hx
      · exact up _ (ih1.1 y hy)
      · exact up _ (ih1.2 x hx y hy)
      · exact ih2.2 x hx y hy
/-- A way of edges. -/
inductive Way (nx : Nat → List Nat) : Nat → Nat → Prop
  | here (a : Nat) : Way nx a a
  | step {a b c : Nat} (h : b ∈ nx a) (hw : Way nx b c) : Way nx a c
theorem Way.trans {a b c : Nat} (h : Way nx a b) (k : Way nx b c) : Way nx a c := by
  induction h with
  | here a => exact k
  | step h _ ih => exact .step h (ih k)
/-- To what is met a way leads. -/
theorem Kids.ways : ∀ {es m l s m'}, Kids nx es m l s m' → ∀ x ∈ s, ∃ e ∈ es, Way nx e x := by
  intro es m l s m' h
  induction h with
  | nil m => intro x h; cases h
  | skip h hk ih =>
    intro x hx
    obtain ⟨e, he, hw⟩ := ih x hx
    exact ⟨e, List.mem_cons_of_mem _ he, hw⟩
  | @go k es m m1 m2 l1 s1 l2 s2 h h1 h2 ih1 ih2 =>
    intro x hx
    simp only [List.mem_cons, List.mem_append] at hx
    rcases hx with rfl | hx | hx
    · exact ⟨x, List.mem_cons_self, .here x⟩
    · obtain ⟨e, he, hw⟩ := ih1 x hx
      exact ⟨k, List.mem_cons_self, .step he hw⟩
    · obtain ⟨e, he, hw⟩ := ih2 x hx
      exact ⟨e, List.mem_cons_of_mem _ he, hw⟩
/-- A walk from one, where nothing was met: just what ways lead to. -/
theorem walk_ways {a : Nat} {l s : List Nat} {m' : Met} (h : Kids nx [a] (fun _ => false) l s m') (x : Nat) : x ∈ s ↔ Way nx a x := by
  constructor
  · intro hx
    obtain ⟨e, he, hw⟩ := h.ways x hx
    rw [List.mem_singleton] at he
    exact he ▸ hw
  · intro hw
    have hm : ∀ y, m' y = true → y ∈ s := fun y hy => by rw [h.met y] at hy; simpa using hy
    have ha : a ∈ s := hm a (h.shut.1 a (by simp))
    have go : ∀ b c, Way nx b c → b ∈ s → c ∈ s := fun b c hw => by
      induction hw with
      | here b => exact fun h => h
      | step hb _ ih => exact fun hb' => ih (hm _ (h.shut.2 _ hb' _ hb))
    exact go a x hw ha
/-- How many of the first N were not met. -/
def unmet (N : Nat) (m : Met) : Nat := ((List.range N).filter (fun x => !m x)).length
theorem unmet_mark {N : Nat} {m : Met} {k : Nat} (hk : k < N) (h : m k = false) : unmet N (mark m k) < unmet N m := by
  unfold unmet
  have h1 : (List.range N).filter (fun x => !mark m k x) = ((List.range N).filter (fun x => !m x)).filter (fun x => !(x == k)) := by
    rw [List.filter_filter]
    congr 1
    funext x
    simp only [mark]
    cases (x == k) <;> cases m x <;> rfl
  rw [h1]
  refine List.length_filter_lt_length_iff_exists.2 ⟨k, ?_, by simp⟩
  rw [List.mem_filter]
  exact ⟨List.mem_range.2 hk, by simp [h]⟩
theorem filter_le {p q : Nat → Bool} (h : ∀ x, p x = true → q x = true) : ∀ l : List Nat, (l.filter p).length ≤ (l.filter q).length
  | [] => Nat.le_refl _
  | a :: l => by
    have ih := filter_le h l
    cases hp : p a
    · rw [List.filter_cons, hp]
      cases hq : q a
      · rw [List.filter_cons, hq]; exact ih
      · rw [List.filter_cons, hq]; simp; omega
    · rw [List.filter_cons, hp, List.filter_cons, h a hp]
      simpa using ih
theorem unmet_le {N : Nat} {m m' : Met} (h : ∀ x, m x = true → m' x = true) : unmet N m' ≤ unmet N m := by
  unfold unmet
  refine filter_le (fun x hx => ?_) _
  cases hm : m x
  · rfl
  · rw [h x hm] at hx; cases hx
/-- Each walk ends. -/
theorem kids_ends {N : Nat} (hN : ∀ x, ∀ y ∈ nx x, y < N) : ∀ (u : Nat) (es : List Nat) (m : Met), unmet N m ≤ u → (∀ x ∈ es, x < N) → ∃ l s m', Kids nx es m l s m' := by
  intro u
  induction u with
  | zero =>
    intro es m hu
    induction es with
    | nil => exact fun _ => ⟨_, _, _, .nil m⟩
    | cons k es ih =>
      intro he
      obtain ⟨l, s, m', h⟩ := ih (fun x hx => he x (List.mem_cons_of_mem _ hx))
      cases hk : m k
      · have := unmet_mark (he k List.mem_cons_self) hk
        omega
      · exact ⟨_, _, _, .skip hk h⟩
  | succ u ihu =>
    intro es
    induction es with
    | nil => exact fun m _ _ => ⟨_, _, _, .nil m⟩
    | cons k es ih =>
      intro m hu he
      cases hk : m k
      · have h0 := unmet_mark (he k List.mem_cons_self) hk
        obtain ⟨l1, s1, m1, h1⟩ := ihu (nx k) (mark m k) (by omega) (fun x hx => hN k x hx)
        obtain ⟨l2, s2, m2, h2⟩ := ih m1 (by
          have : unmet N m1 ≤ unmet N (mark m k) := unmet_le (fun x hx => by rw [h1.met x, hx]; rfl)
          omega) (fun x hx => he x (List.mem_cons_of_mem _ hx))
        exact ⟨_, _, _, .go hk h1 h2⟩
      · obtain ⟨l, s, m', h⟩ := ih m hu (fun x hx => he x (List.mem_cons_of_mem _ hx))
        exact ⟨_, _, _, .skip hk h⟩
theorem run_ends {N : Nat} (hN : ∀ x, ∀ y ∈ nx x, y < N) : ∀ (S : List (Nat × List Nat)) (m : Met), (∀ p ∈ S, ∀ x ∈ p.2, x < N) → ∃ l s m', Run nx S m l s m'
  | [], m, _ => ⟨_, _, _, .nil m⟩
  | (n, es) :: S, m, h => by
    obtain ⟨l1, s1, m1, h1⟩ := kids_ends hN _ es m (Nat.le_refl _) (h (n, es) List.mem_cons_self)
    obtain ⟨l2, s2, m2, h2⟩ := run_ends hN S m1 (fun p hp => h p (List.mem_cons_of_mem _ hp))
    exact ⟨_, _, _, .cons h1 h2⟩
/-- The three steps of a stack. -/
theorem Run.leave {n : Nat} {S : List (Nat × List Nat)} {m m2 : Met} {l s : List Nat} (h : Run nx ((n, []) :: S) m l s m2) : ∃ l', l = n :: l' ∧ Run nx S m l' s m2 := by
  cases h with
  | cons h1 h2 =>
    cases h1
    exact ⟨_, rfl, h2⟩
theorem Run.skip {n k : Nat} {es : List Nat} {S : List (Nat × List Nat)} {m m2 : Met} {l s : List Nat} (hk : m k = true) (h : Run nx ((n, k :: es) :: S) m l s m2) : Run nx ((n, es) :: S) m l s m2 := by
  cases h with
  | cons h1 h2 =>
    cases h1 with
    | skip _ h1 => exact .cons h1 h2
    | go h' _ _ => rw [hk] at h'; cases h'
theorem Run.visit {n k : Nat} {es : List Nat} {S : List (Nat × List Nat)} {m m2 : Met} {l s : List Nat} (hk : m k = false) (h : Run nx ((n, k :: es) :: S) m l s m2) : ∃ s', s = k :: s' ∧ Run nx ((k, nx k) :: (n, es) :: S) (mark m k) l s' m2 := by
  cases h with
  | cons h1 h2 =>
    cases h1 with
    | skip h' _ => rw [hk] at h'; cases h'
    | go _ h1 h3 =>
      have := Run.cons (n := k) h1 (Run.cons (n := n) h3 h2)
      exact ⟨_, List.cons_append, by simpa [List.append_assoc] using this⟩
end
end Go.Proofs.YtlbcinanpnjjjaaDoor
