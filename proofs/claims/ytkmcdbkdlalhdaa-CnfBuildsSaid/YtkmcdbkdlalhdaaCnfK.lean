/- Appending numbers; what two clauses resolve to. Conditions: at most 100000 numbers. -/
import Derived.Test.YtkmcdbkdlalhdaaCnfI
namespace Go.Proofs.Ytkmcdbkdlalhdaa
open Go.RowKit Go.Maps Go.Lib Go.Sort
set_option linter.unusedVariables false
set_option linter.unusedSimpArgs false
theorem ints_one (xs : List Int) : ∀ u ∈ xs.map (Value.int .i64), u.oneCell' = true := by
  intro u hu
  obtain ⟨x, -, rfl⟩ := List.mem_map.1 hu
  rfl
theorem own_blk {w : World} {base n c : Nat} {A : Option Addr} {xs : List Int} (h : Own w base A n c xs) : ∀ k, Value.ownBlock (.slice A n c) = some k → base ≤ k := by
  intro k hk
  rcases h.2 with ⟨e, -⟩ | ⟨g, cap, cur', e, h1, -⟩
  · rw [e] at hk; simp [Value.ownBlock] at hk
  · rw [e] at hk
    simp [Value.ownBlock] at hk
    omega
theorem run_append_ints (w : World) (base n c m c2 B : Nat) (A A2 : Option Addr) (xs ys : List Int) (ty : TypeId) (h : Own w base A n c xs) (hy : Ints w B A2 m ys) (hb : base ≤ w.heap.size) (hnm : n + m ≤ 400000) :
    ∃ A' c' w', (Builtin.append_ #[40, 40] ty #[.slice A n c, .slice A2 m c2]).run Try.prog w = .ok (.slice A' (n + m) c') w' ∧ Own w' base A' (n + m) c' (xs ++ ys) ∧ Below base w w' ∧ w.grownBy w' (Value.ownBlock (.slice A n c)) := by
  obtain ⟨i0t, hti, hz0, hz1, hz2⟩ := info_parts info3
  have hlen := hy.len
  cases A2 with
  | none =>
    have hm : m = 0 := by
      rcases hy.2 with h0 | ⟨b, off, e, -⟩
      · exact h0
      · cases e
    subst hm
    obtain rfl : ys = [] := List.eq_nil_of_length_eq_zero hlen
    refine ⟨A, c, w, ?_, by simpa using h, Below.refl _ _, World.grownBy.refl w _⟩
    rcases h.2 with ⟨e, -⟩ | ⟨g, cap, cur, e, _, _, hnc, _⟩
    · injection e with e1 e2 e3
      subst e1 e2 e3
      simp [Builtin.append_, run_underlying Try.underlying40, sizeOf, typeInfo, hti, Builtin.lenOf, Builtin.firstCells]
    · injection e with e1 e2 e3
      subst e1 e3
      simp [Builtin.append_, run_underlying Try.underlying40, sizeOf, typeInfo, hti, Builtin.lenOf, Builtin.firstCells, hnc, storeCells]
  | some ad =>
    have hcell : ∀ j u, (ys.map (Value.int .i64))[j]? = some u → w.cell? (ad.add j) = some u := by
      intro j u hu
      rcases hy.2 with h0 | ⟨b, off, e, -, hc⟩
      · subst h0
        obtain rfl : ys = [] := List.eq_nil_of_length_eq_zero hlen
        simp at hu
      · injection e with e
        subst e
        have := hc j u hu
        unfold Addr.add
        split
        · rename_i h0; subst h0; simpa using this
        · exact this
    obtain ⟨v', w', hrun, hown, hgrow, -, -⟩ := run_append_own_at (P := Try.prog) w base 40 ty 3 i0t (.int .i64 0) 1 8 Try.underlying40 hti hz0 hz1 hz2 rfl (by decide) (.slice A n c) n (xs.map (Value.int .i64)) h ad m c2 (ys.map (Value.int .i64)) (by simp [hlen]) hcell (ints_one ys) (by unfold maxLen; omega) (by omega) hb
    obtain ⟨A', c', rfl⟩ := own_form hown
    refine ⟨A', c', w', hrun, ?_, (Below.refl base w).grown hgrow hb (own_blk h), hgrow⟩
    unfold Own
    rw [List.map_append]
    exact hown
theorem wpList_append_ints {ops : Array Oper} {rest : List Oper} {o : Oper} {a : Act} {w : World} {Q : Exit → Act → World → Prop} (hgd : o.guard = none) (s x : Operand)
    (ho : o.op = .call { callee := .builtin .append, args := #[s, x], argTypes := #[40, 40] })
    (base n c m c2 B : Nat) (A A2 : Option Addr) (xs ys : List Int) (hs : a.eval s = .slice A n c) (hx : a.eval x = .slice A2 m c2) (h : Own w base A n c xs) (hy : Ints w B A2 m ys) (hb : base ≤ w.heap.size) (hnm : n + m ≤ 400000)
    (hK : ∀ A' c' w', Own w' base A' (n + m) c' (xs ++ ys) → Below base w w' → w.grownBy w' (Value.ownBlock (.slice A n c)) → wpList Try.prog ops Q rest (a.put o.dst (.slice A' (n + m) c')) w') : wpList Try.prog ops Q (o :: rest) a w := by
  refine wpList_plain hgd fun K hK' => ?_
  obtain ⟨A', c', w', hr, h1, h2, h3⟩ := run_append_ints w base n c m c2 B A A2 xs ys o.type h hy hb hnm
  unfold Oper.wp execOp
  simp only [ho, resolve, invoke, builtin, Sem.run_bind, Sem.run_pure, Result.andThen_ok, List.map_toArray, List.map_cons, List.map_nil, hs, hx, hr]
  exact hK' _ _ (hK A' c' w' h1 h2 h3)
noncomputable def resB (xs ys : List Int) (v : Int) : Bool := (decide (1 ≤ v) && xs.contains v) && (ys.contains (-v) && okN (nrm (wo xs v ++ wo ys (-v))))
noncomputable def resL (xs ys : List Int) (v : Int) : List Int := if resB xs ys v then nrm (wo xs v ++ wo ys (-v)) else []
theorem resL_no {xs ys : List Int} {v : Int} (h : resB xs ys v = false) : resL xs ys v = [] := by unfold resL; rw [h]; rfl
theorem resL_yes {xs ys : List Int} {v : Int} (h : resB xs ys v = true) : resL xs ys v = nrm (wo xs v ++ wo ys (-v)) := by unfold resL; rw [h]; rfl
theorem resolve_no (xs ys : List Int) (v : Int) (A A2 : Option Addr) (n cap n2 cap2 B : Nat) (w : World) (hw : IntKind.i64.wrap (-v) = -v ∨ v < 1) (h : Ints w B A n xs) (h2 : Ints w B A2 n2 ys) (hl : n ≤ 100000) (hl2 : n2 ≤ 100000)
    (hno : v < 1 ∨ xs.contains v = false ∨ ys.contains (-v) = false) :
    Calls Try.prog 25 #[.slice A n cap, .slice A2 n2 cap2, .int .i64 v] w fun e w' => e = .returned (.tuple #[.slice none 0 0, .bool false]) ∧ w' = w := by
  by_cases h1 : v < 1
  · clear hno hw
    go_enter Try.func25, Try.ntmps25
    go_wp2
    go_ret2
    exact ⟨rfl, rfl⟩
  · have hw' : IntKind.i64.wrap (-v) = -v := hw.resolve_right h1
    have H1 := hid (contains_i v xs A n cap B w h (by omega))
    have H2 := hid (contains_i (-v) ys A2 n2 cap2 B w h2 (by omega))
    clear hw h h2
    cases c1 : xs.contains v
    case false =>
      rw [c1] at H1
      clear hno c1
      go_enter Try.func25, Try.ntmps25
      go_wp2_with (go_at_call 34; go_must (refine H1.out.mono ?_); rintro e w' ⟨rfl, rfl⟩)
      go_ret2
      exact ⟨rfl, rfl⟩
    case true =>
      have c2 : ys.contains (-v) = false := by
        rcases hno with hno | hno | hno
        · exact absurd hno h1
        · rw [c1] at hno; cases hno
        · exact hno
      rw [c1] at H1
      rw [c2] at H2
      clear hno c1 c2
      have F1 : True := trivial
      go_enter Try.func25, Try.ntmps25
      go_wp2_with (first
        | (go_at_call 34; have hh := F1; clear F1; go_must (refine H1.out.mono ?_); rintro e w' ⟨rfl, rfl⟩)
        | (go_at_call 34; go_must (refine H2.out.mono ?_); rintro e w' ⟨rfl, rfl⟩))
      go_ret2
      exact ⟨rfl, rfl⟩
/-- What a call of Resolve leaves. -/
def ResPost (w : World) (z : List Int) (r : Bool) (e : Ending) (w' : World) : Prop := ∃ A' n' c', e = .returned (.tuple #[.slice A' n' c', .bool r]) ∧ Hid (Ints w' w'.heap.size A' n' (if r then z else [])) ∧ Hid (n' ≤ c' ∧ c' ≤ 9223372036854775807) ∧ Hid (Below w.heap.size w w')
set_option maxHeartbeats 1000000 in
theorem resolve_yes (xs ys : List Int) (v : Int) (A A2 : Option Addr) (n cap n2 cap2 B : Nat) (w : World) (hB : B ≤ w.heap.size) (hw : IntKind.i64.wrap (-v) = -v) (h : Ints w B A n xs) (h2 : Ints w B A2 n2 ys) (hl : n ≤ 100000) (hl2 : n2 ≤ 100000)
    (h0 : 1 ≤ v) (hx : xs.contains v = true) (hy : ys.contains (-v) = true) (r : Bool) (hr : okN (nrm (wo xs v ++ wo ys (-v))) = r) :
    Calls Try.prog 25 #[.slice A n cap, .slice A2 n2 cap2, .int .i64 v] w (ResPost w (nrm (wo xs v ++ wo ys (-v))) r) := by
  have H1 := hid (contains_i v xs A n cap B w h (by omega))
  have H2 := hid (contains_i (-v) ys A2 n2 cap2 B w h2 (by omega))
  rw [hx] at H1
  rw [hy] at H2
  have H3 := hid (without_i v xs A n cap B w hB h (by omega))
  have H4 := hid (fun w1 (hb : Below w.heap.size w w1) => without_i (-v) ys A2 n2 cap2 B w1 (Nat.le_trans hB hb.size) (h2.below (hb.mono hB)) (by omega))
  have HL1 := hid (Nat.le_trans (wo_len xs v) (Nat.le_of_eq h.len))
  have HL2 := hid (Nat.le_trans (wo_len ys (-v)) (Nat.le_of_eq h2.len))
  obtain ⟨p, HP⟩ : ∃ p, Hid (wo xs v = p) := ⟨_, hid rfl⟩
  obtain ⟨q, HQ⟩ : ∃ q, Hid (wo ys (-v) = q) := ⟨_, hid rfl⟩
  rw [HP.out] at H3 HL1 hr ⊢
  rw [HQ.out] at H4 HL2 hr ⊢
  obtain ⟨np, HNP⟩ : ∃ np, Hid (p.length = np) := ⟨_, hid rfl⟩
  obtain ⟨nq, HNQ⟩ : ∃ nq, Hid (q.length = nq) := ⟨_, hid rfl⟩
  rw [HNP.out] at H3 HL1
  rw [HNQ.out] at H4 HL2
  have H5 := hid (fun A n c w1 (ho : Own w1 w.heap.size A n c (p ++ q)) (hl : n ≤ 200000) => norm_i (p ++ q) A n c w1.heap.size w1 ho.ints hl)
  obtain ⟨z, HZ⟩ : ∃ z, Hid (nrm (p ++ q) = z) := ⟨_, hid rfl⟩
  rw [HZ.out] at H5 hr ⊢
  rw [hr] at H5
  obtain ⟨nz, HNZ⟩ : ∃ nz, Hid (z.length = nz) := ⟨_, hid rfl⟩
  rw [HNZ.out] at H5
  have hnp : np ≤ 100000 := Nat.le_trans HL1.out hl
  have hnq : nq ≤ 100000 := Nat.le_trans HL2.out hl2
  have h0' : ¬ v < 1 := by omega
  clear h h2 hx hy hr hl hl2 h0
  have F1 : True := trivial
  have F3 : True := trivial
  obtain ⟨Q, HQ2⟩ : ∃ Q : Ending → World → Prop, Hid (Q = ResPost w z r) := ⟨_, hid rfl⟩
  rw [← HQ2.out]
  cases r
  all_goals
    go_enter Try.func25, Try.ntmps25
    go_wp2_with (first
      | (go_at_call 34; have hh := F1; clear F1; go_must (refine H1.out.mono ?_); rintro e w' ⟨rfl, hw0⟩; obtain rfl := hw0.symm; clear hw0)
      | (go_at_call 34; go_must (refine H2.out.mono ?_); rintro e w' ⟨rfl, hw0⟩; obtain rfl := hw0.symm; clear hw0)
      | (go_at_call 35; have hh := F3; clear F3; go_must (refine H3.out.mono ?_); rintro e w1 ⟨A1, c1, rfl, HO1, HB1⟩)
      | (go_at_call 35; go_must (refine (H4.out _ HB1.out).mono ?_); rintro e w2 ⟨A3, c3, rfl, HO2, HB2⟩)
      | (at_builtin; go_must (refine wpList_append_ints rfl _ _ rfl w.heap.size np c1 nq c3 w2.heap.size A1 A3 p q rfl rfl (HO1.out.below HB2.out) HO2.out.ints (Nat.le_trans HB1.out.size HB2.out.size) (by omega) ?_)
         intro A4 c4 w3 hown hbel hgrow
         have HO3 := hid hown
         have HB3 := hid ((after HB1.out HB2.out HB1.out.size).trans hbel)
         clear hown hbel hgrow)
      | (go_at_call 27; go_must (refine (H5.out _ _ _ _ HO3.out (by omega)).mono ?_); rintro e w4 ⟨A5, c5, rfl, HO4, HB4⟩))
    rw [HQ2.out]
    first
      | exact ⟨A5, nz, c5, rfl, hid HO4.out.ints, hid HO4.out.cap, hid (after HB3.out HB4.out HB3.out.size)⟩
      | exact ⟨none, 0, 0, rfl, hid (Ints.nil _ _ _), hid ⟨Nat.le_refl _, Nat.zero_le _⟩, hid (after HB3.out HB4.out HB3.out.size)⟩
theorem resolve_i (xs ys : List Int) (v : Int) (A A2 : Option Addr) (n cap n2 cap2 B : Nat) (w : World) (hB : B ≤ w.heap.size) (hw : v < 1 ∨ IntKind.i64.wrap (-v) = -v) (h : Ints w B A n xs) (h2 : Ints w B A2 n2 ys) (hl : n ≤ 100000) (hl2 : n2 ≤ 100000) :
    Calls Try.prog 25 #[.slice A n cap, .slice A2 n2 cap2, .int .i64 v] w (ResPost w (nrm (wo xs v ++ wo ys (-v))) (resB xs ys v)) := by
  by_cases hc : 1 ≤ v ∧ xs.contains v = true ∧ ys.contains (-v) = true
  · obtain ⟨h0, h1, h3⟩ := hc
    have hr : okN (nrm (wo xs v ++ wo ys (-v))) = resB xs ys v := by unfold resB; rw [h1, h3]; simp [h0]
    exact resolve_yes xs ys v A A2 n cap n2 cap2 B w hB (hw.resolve_left (by omega)) h h2 hl hl2 h0 h1 h3 _ hr
  · have hno : v < 1 ∨ xs.contains v = false ∨ ys.contains (-v) = false := by
      by_cases h0 : v < 1
      · exact .inl h0
      · cases c1 : xs.contains v
        · exact .inr (.inl rfl)
        · cases c2 : ys.contains (-v)
          · exact .inr (.inr rfl)
          · exact absurd ⟨by omega, c1, c2⟩ hc
    have hr : resB xs ys v = false := by
      unfold resB
      rcases hno with h0 | h0 | h0
      · simp; omega
      · rw [h0]; simp
      · rw [h0]; simp
    rw [hr]
    exact (resolve_no xs ys v A A2 n cap n2 cap2 B w hw.symm h h2 hl hl2 hno).mono fun e w' ⟨he, hw'⟩ => ⟨none, 0, 0, he, hid (Ints.nil _ _ _), hid ⟨Nat.le_refl _, Nat.zero_le _⟩, hid (by subst hw'; exact Below.refl _ _)⟩
end Go.Proofs.Ytkmcdbkdlalhdaa
