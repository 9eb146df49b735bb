/- When a variable is asked: plain. No conditions. -/
import Derived.Test.YtlbcinanpnjjjaaDoorFlG
import Derived.Test.YtlbcinanpnjjjaaDoorLvR
namespace Go.Proofs.YtlbcinanpnjjjaaDoor
set_option linter.unusedVariables false
/-- Is v read by i? -/
def rdV (x : CoD) (i v : Nat) : Bool := match x.ins[i]? with | some r => (rdsF r).any (fun y => y == (v : Int)) | none => false
/-- Is v written by i? -/
def wrV (x : CoD) (i v : Nat) : Bool := match x.ins[i]? with | some r => wrB r.op && (r.d == (v : Int)) | none => false
/-- v is asked ahead of i: some way leads to who reads it, and nobody writes it ahead of that. -/
inductive Ask (x : CoD) : Nat → Nat → Prop
  | here {i v : Nat} : rdV x i v = true → Ask x i v
  | step {i j v : Nat} : j ∈ nxE x i → Ask x j v → wrV x i v = false → Ask x i v
/-- v is asked behind i. -/
def AskB (x : CoD) (i v : Nat) : Prop := ∃ j ∈ nxE x i, Ask x j v
theorem ask_iff {x : CoD} {i v : Nat} : Ask x i v ↔ (rdV x i v = true ∨ (AskB x i v ∧ wrV x i v = false)) := by
  refine ⟨fun h => ?_, fun h => ?_⟩
  · cases h with
    | here h => exact .inl h
    | step h1 h2 h3 => exact .inr ⟨⟨_, h1, h2⟩, h3⟩
  · rcases h with h | ⟨⟨j, h1, h2⟩, h3⟩
    · exact .here h
    · exact .step h1 h2 h3
/-- How many of the first K are not there. -/
def lack (p : Nat → Bool) : Nat → Nat
  | 0 => 0
  | k + 1 => lack p k + (if p k then 0 else 1)
theorem lack_le {p q : Nat → Bool} : ∀ {K : Nat}, (∀ v, v < K → p v = true → q v = true) → lack q K ≤ lack p K
  | 0, _ => Nat.le_refl _
  | k + 1, h => by
    have := lack_le (p := p) (q := q) (K := k) (fun v hv => h v (by omega))
    have h2 := h k (by omega)
    unfold lack
    cases hp : p k <;> cases hq : q k <;> simp_all <;> omega
theorem lack_lt {p q : Nat → Bool} {v0 : Nat} (hp : p v0 = false) (hq : q v0 = true) : ∀ {K : Nat}, v0 < K → (∀ v, v < K → p v = true → q v = true) → lack q K < lack p K
  | 0, h0, _ => absurd h0 (by omega)
  | k + 1, h0, h => by
    by_cases hk : v0 = k
    · subst hk
      have := lack_le (p := p) (q := q) (K := v0) (fun v hv => h v (by omega))
      unfold lack
      rw [hp, hq]
      simp
      omega
    · have := lack_lt hp hq (K := k) (by omega) (fun v hv => h v (by omega))
      have h2 := h k (by omega)
      unfold lack
      cases hp : p k <;> cases hq : q k <;> simp_all <;> omega
/-- How many are not there in all of the first n. -/
def lacks (m : Nat → Nat → Bool) (K : Nat) : Nat → Nat
  | 0 => 0
  | n + 1 => lacks m K n + lack (m n) K
theorem lacks_le {m m' : Nat → Nat → Bool} {K : Nat} : ∀ {n : Nat}, (∀ i v, i < n → v < K → m i v = true → m' i v = true) → lacks m' K n ≤ lacks m K n
  | 0, _ => Nat.le_refl _
  | n + 1, h => by
    have := lacks_le (m := m) (m' := m') (K := K) (n := n) (fun i v hi => h i v (by omega))
    have := lack_le (p := m n) (q := m' n) (K := K) (fun v hv => h n v (by omega) hv)
    unfold lacks
    omega
theorem lacks_lt {m m' : Nat → Nat → Bool} {K i0 v0 : Nat} (hv : v0 < K) (h0 : m i0 v0 = false) (h1 : m' i0 v0 = true) : ∀ {n : Nat}, i0 < n → (∀ i v, i < n → v < K → m i v = true → m' i v = true) → lacks m' K n < lacks m K n
  | 0, h, _ => absurd h (by omega)
  | n + 1, hi, h => by
    by_cases hk : i0 = n
    · subst hk
      have := lacks_le (m := m) (m' := m') (K := K) (n := i0) (fun i v hi => h i v (by omega))
      have := lack_lt h0 h1 (K := K) hv (fun v hv => h i0 v (by omega) hv)
      unfold lacks
      omega
    · have := lacks_lt hv h0 h1 (n := n) (by omega) (fun i v hi => h i v (by omega))
      have := lack_le (p := m n) (q := m' n) (K := K) (fun v hv => h n v (by omega) hv)
      unfold lacks
      omega
theorem lack_max (p : Nat → Bool) : ∀ K, lack p K ≤ K
  | 0 => Nat.le_refl _
  | k + 1 => by
    have := lack_max p k
    unfold lack
    split <;> omega
theorem lacks_max (m : Nat → Nat → Bool) (K : Nat) : ∀ n, lacks m K n ≤ n * K
  | 0 => by simp [lacks]
  | n + 1 => by
    have := lacks_max m K n
    have := lack_max (m n) K
    unfold lacks
    rw [Nat.add_mul]
    omega
/-- The rows, one of them other. -/
def upd (m : Nat → Nat → Bool) (i : Nat) (f : Nat → Bool) : Nat → Nat → Bool := fun a => if a = i then f else m a
theorem upd_at (m : Nat → Nat → Bool) (i : Nat) (f : Nat → Bool) : upd m i f i = f := by simp [upd]
theorem upd_ne (m : Nat → Nat → Bool) {i a : Nat} (f : Nat → Bool) (h : a ≠ i) : upd m i f a = m a := by simp [upd, h]
/-- What holds of the rows, ahead and behind, between steps; each is right below K. -/
structure Lv (x : CoD) (n K : Nat) (mA mB : Nat → Nat → Bool) : Prop where
  ahead : ∀ i v, i < n → v < K → mA i v = (rdV x i v || (mB i v && !wrV x i v))
  good : ∀ i v, i < n → v < K → mA i v = true → Ask x i v
  goodB : ∀ i v, i < n → v < K → mB i v = true → AskB x i v
/-- Nothing is to be done at i. -/
def Done (x : CoD) (K : Nat) (mA mB : Nat → Nat → Bool) (i : Nat) : Prop := ∀ v, v < K → ∀ j ∈ nxE x i, mA j v = true → mB i v = true
section
variable {x : CoD} {n K i : Nat} {mA mB : Nat → Nat → Bool}
theorem Lv.full (h : Lv x n K mA mB) (hn : n = x.ins.length) (hd : ∀ i, i < n → Done x K mA mB i) {i v : Nat} (hv : v < K) (hi : i < n) : mA i v = true ↔ Ask x i v := by
  refine ⟨h.good i v hi hv, fun ha => ?_⟩
  have go : ∀ a b, Ask x a b → a < n → b < K → mA a b = true := by
    intro a b hab
    induction hab with
    | here hr =>
      intro ha hb
      rw [h.ahead _ _ ha hb, hr]; rfl
    | step hj _ hw ih =>
      intro ha hb
      have hjn := nxE_lt hj
      have := ih (by omega) hb
      rw [h.ahead _ _ ha hb, hd _ ha _ hb _ hj this, hw]
      simp
  exact go i v ha hi hv
theorem Lv.fullB (h : Lv x n K mA mB) (hn : n = x.ins.length) (hd : ∀ i, i < n → Done x K mA mB i) {i v : Nat} (hv : v < K) (hi : i < n) : mB i v = true ↔ AskB x i v := by
  refine ⟨h.goodB i v hi hv, fun ⟨j, hj, ha⟩ => ?_⟩
  have hjn := nxE_lt hj
  exact hd i hi v hv j hj ((h.full hn hd hv (by omega)).2 ha)
/-- What is asked behind i, as its next ones tell. -/
def joinB (x : CoD) (mA mB : Nat → Nat → Bool) (i : Nat) : Nat → Bool := fun v => mB i v || (nxE x i).any (fun j => mA j v)
theorem Lv.step (h : Lv x n K mA mB) (hn : n = x.ins.length) (hi : i < n) :
    Lv x n K (upd mA i (fun v => rdV x i v || (joinB x mA mB i v && !wrV x i v))) (upd mB i (joinB x mA mB i)) := by
  have hgB : ∀ v, v < K → joinB x mA mB i v = true → AskB x i v := fun v hv hj => by
    simp only [joinB, Bool.or_eq_true, List.any_eq_true] at hj
    rcases hj with hj | ⟨j, h1, h2⟩
    · exact h.goodB i v hi hv hj
    · have := nxE_lt h1
      exact ⟨j, h1, h.good j v (by omega) hv h2⟩
  refine ⟨fun a v ha hv => ?_, fun a v ha hv hm => ?_, fun a v ha hv hm => ?_⟩
  · by_cases e : a = i
    · subst e
      rw [upd_at, upd_at]
    · rw [upd_ne _ _ e, upd_ne _ _ e]
      exact h.ahead a v ha hv
  · by_cases e : a = i
    · subst e
      rw [upd_at] at hm
      simp only [Bool.or_eq_true, Bool.and_eq_true, Bool.not_eq_true'] at hm
      rcases hm with hm | ⟨h1, h2⟩
      · exact .here hm
      · exact ask_iff.2 (.inr ⟨hgB v hv h1, h2⟩)
    · rw [upd_ne _ _ e] at hm
      exact h.good a v ha hv hm
  · by_cases e : a = i
    · subst e
      rw [upd_at] at hm
      exact hgB v hv hm
    · rw [upd_ne _ _ e] at hm
      exact h.goodB a v ha hv hm
theorem Lv.less (hi : i < n) {v0 : Nat} (hv : v0 < K) (h0 : mB i v0 = false) (h1 : joinB x mA mB i v0 = true) : lacks (upd mB i (joinB x mA mB i)) K n < lacks mB K n := by
  refine lacks_lt (i0 := i) hv h0 (by rw [upd_at]; exact h1) hi (fun a v ha hv hm => ?_)
  by_cases e : a = i
  · subst e
    rw [upd_at]
    simp [joinB, hm]
  · rwa [upd_ne _ _ e]
end
/-- At the start what is read is asked. -/
theorem lv_start (x : CoD) (n K : Nat) : Lv x n K (rdV x) (fun _ _ => false) :=
  ⟨fun i v _ _ => by simp, fun i v _ _ h => .here h, fun i v _ _ h => by cases h⟩
end Go.Proofs.YtlbcinanpnjjjaaDoor
