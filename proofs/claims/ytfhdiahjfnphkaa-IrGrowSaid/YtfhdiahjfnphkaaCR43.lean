/- One variable more in each function: plain facts. No conditions. -/
import Derived.Test.YtfhdiahjfnphkaaCR34
namespace Go.Proofs.Ytfhdiahjfnphkaa
open Go.RowKit Go.Maps
set_option linter.unusedVariables false
set_option linter.unusedSimpArgs false
abbrev v0D : VaD := ⟨⟨false, ⟨#[]⟩⟩, 0⟩
def growC (c : CoD) : CoD := { c with vs := c.vs ++ [v0D] }
theorem grow_ins (c : CoD) : (growC c).ins = c.ins := rfl
theorem grow_rt (c : CoD) : (growC c).rt = c.rt := rfl
theorem grow_pr (c : CoD) : (growC c).pr = c.pr := rfl
theorem grow_nm (c : CoD) : (growC c).nm = c.nm := rfl
theorem grow_vs (c : CoD) : (growC c).vs = c.vs ++ [v0D] := rfl
abbrev growL (cs : List CoD) : List CoD := cs.map growC
theorem inN_grow {c : CoD} {d : Int} (h : inN c.vs.length d = true) : inN (growC c).vs.length d = true := by
  rw [grow_vs, List.length_append]
  simp [inN] at h ⊢
  omega
theorem tyOf_grow {c : CoD} {d : Int} (h : inN c.vs.length d = true) : tyOf (growC c) d = tyOf c d := by
  obtain ⟨k, pp, nm, rfl, ⟨v, hv, -⟩, -⟩ := inN_get h
  have hk := (List.getElem?_eq_some_iff.1 hv).1
  simp only [tyOf, Int.toNat_natCast, grow_vs]
  rw [List.getElem?_append_left hk]
theorem all_grow {c : CoD} {xs : List Int} (h : xs.all (inN c.vs.length) = true) : xs.all (inN (growC c).vs.length) = true :=
  List.all_eq_true.2 fun x hx => inN_grow (List.all_eq_true.1 h x hx)
theorem args_grow (c : CoD) : ∀ {xs : List Int} {vs : List VaD} (l : List VaD), xs.all (inN c.vs.length) = true → argsEq c xs vs = true → argsEq (growC c) xs (vs ++ l) = true
  | [], _, _, _, _ => by simp [argsEq]
  | _ :: _, [], _, _, h => by simp [argsEq] at h
  | a :: xs, v :: vs, l, h, hh => by
    simp only [List.all_cons, Bool.and_eq_true] at h
    simp only [argsEq, Bool.and_eq_true] at hh
    simp only [List.cons_append, argsEq, Bool.and_eq_true]
    exact ⟨by rw [tyOf_grow h.1]; exact hh.1, args_grow c l h.2 hh.2⟩
set_option maxHeartbeats 1000000 in
/-- What an instruction asks, it has with one variable more. -/
theorem jF_grow {ss : List StD} {cs : List CoD} {c : CoD} {r : InD} (h : jF ss cs c r = 0) : jF ss (growL cs) (growC c) r = 0 := by
  have ho := jF_op h
  have hl : (wrB r.op = true ∧ inN c.vs.length r.d = false) ∨ (rdsF r).all (inN c.vs.length) = false → False := fun hc => by
    have := jF_loose ss cs c r (by omega) (by omega) hc
    rw [h] at this
    cases this
  have hd : wrB r.op = true → inN c.vs.length r.d = true := fun hw => by
    cases hq : inN c.vs.length r.d
    · exact (hl (.inl ⟨hw, hq⟩)).elim
    · rfl
  have hr : (rdsF r).all (inN c.vs.length) = true := by
    cases hq : (rdsF r).all (inN c.vs.length)
    · exact (hl (.inr hq)).elim
    · rfl
  clear hl
  obtain ⟨op, d, a, b, tt, el, f, n, l, cc, sg, xs, ms⟩ := r
  simp only at ho hd hr
  have ho' : op = 1 ∨ op = 2 ∨ op = 3 ∨ op = 4 ∨ op = 5 ∨ op = 6 ∨ op = 7 ∨ op = 8 ∨ op = 9 ∨ op = 10 ∨ op = 11 ∨ op = 12 ∨ op = 13 ∨ op = 14 ∨ op = 15 ∨ op = 16 ∨ op = 17 ∨ op = 18 := by omega
  rcases ho' with rfl | rfl | rfl | rfl | rfl | rfl | rfl | rfl | rfl | rfl | rfl | rfl | rfl | rfl | rfl | rfl | rfl | rfl
  · have hd0 := hd (by decide)
    have d1 := inN_grow hd0
    have d2 := tyOf_grow hd0
    simp [jF, numF, grow_ins, grow_rt, hd0, d1, d2] at h ⊢
    first | exact h | simp [h]
  · have hd0 := hd (by decide)
    have d1 := inN_grow hd0
    have d2 := tyOf_grow hd0
    simp [jF, nullF, grow_ins, grow_rt, hd0, d1, d2] at h ⊢
    first | exact h | simp [h]
  · have hd0 := hd (by decide)
    have hra : inN c.vs.length a = true := by simpa [rdsF, rd1, rd2, rdL, rd2L] using hr
    have d1 := inN_grow hd0
    have d2 := tyOf_grow hd0
    have a1 := inN_grow hra
    have a2 := tyOf_grow hra
    simp [jF, numsF, grow_ins, grow_rt, hd0, d1, d2, hra, a1, a2] at h ⊢
    first | exact h | simp [h]
  · have hd0 := hd (by decide)
    obtain ⟨hra, hrb⟩ : inN c.vs.length a = true ∧ inN c.vs.length b = true := by simpa [rdsF, rd1, rd2, rdL, rd2L] using hr
    have d1 := inN_grow hd0
    have d2 := tyOf_grow hd0
    have a1 := inN_grow hra
    have a2 := tyOf_grow hra
    have b1 := inN_grow hrb
    have b2 := tyOf_grow hrb
    simp [jF, numsF, grow_ins, grow_rt, hd0, d1, d2, hra, a1, a2, hrb, b1, b2] at h ⊢
    first | exact h | simp [h]
  · have hd0 := hd (by decide)
    have d1 := inN_grow hd0
    have d2 := tyOf_grow hd0
    simp [jF, numF, grow_ins, grow_rt, hd0, d1, d2] at h ⊢
    first | exact h | simp [h]
  · have hra : inN c.vs.length a = true := by simpa [rdsF, rd1, rd2, rdL, rd2L] using hr
    have a1 := inN_grow hra
    have a2 := tyOf_grow hra
    simp [jF, askF, grow_ins, grow_rt, hra, a1, a2] at h ⊢
    first | exact h | simp [h]
  · have hd0 := hd (by decide)
    have hra : inN c.vs.length a = true := by simpa [rdsF, rd1, rd2, rdL, rd2L] using hr
    have d1 := inN_grow hd0
    have d2 := tyOf_grow hd0
    have a1 := inN_grow hra
    have a2 := tyOf_grow hra
    simp [jF, fitsF, fieldF, grow_ins, grow_rt, hd0, d1, d2, hra, a1, a2] at h ⊢
    first | exact h | simp [h]
  · obtain ⟨hra, hrb⟩ : inN c.vs.length a = true ∧ inN c.vs.length b = true := by simpa [rdsF, rd1, rd2, rdL, rd2L] using hr
    have a1 := inN_grow hra
    have a2 := tyOf_grow hra
    have b1 := inN_grow hrb
    have b2 := tyOf_grow hrb
    simp [jF, fitsF, fieldF, grow_ins, grow_rt, hra, a1, a2, hrb, b1, b2] at h ⊢
    first | exact h | simp [h]
  · have hd0 := hd (by decide)
    have hra : inN c.vs.length a = true := by simpa [rdsF, rd1, rd2, rdL, rd2L] using hr
    have d1 := inN_grow hd0
    have d2 := tyOf_grow hd0
    have a1 := inN_grow hra
    have a2 := tyOf_grow hra
    simp [jF, giveF, grow_ins, grow_rt, hd0, d1, d2, hra, a1, a2] at h ⊢
    first | exact h | simp [h]
  · have hd0 := hd (by decide)
    have hra : inN c.vs.length a = true := by simpa [rdsF, rd1, rd2, rdL, rd2L] using hr
    have d1 := inN_grow hd0
    have d2 := tyOf_grow hd0
    have a1 := inN_grow hra
    have a2 := tyOf_grow hra
    simp [jF, fitsF, fieldF, grow_ins, grow_rt, hd0, d1, d2, hra, a1, a2] at h ⊢
    first | exact h | simp [h]
  · obtain ⟨hra, hrb⟩ : inN c.vs.length a = true ∧ inN c.vs.length b = true := by simpa [rdsF, rd1, rd2, rdL, rd2L] using hr
    have a1 := inN_grow hra
    have a2 := tyOf_grow hra
    have b1 := inN_grow hrb
    have b2 := tyOf_grow hrb
    simp [jF, fitsF, fieldF, grow_ins, grow_rt, hra, a1, a2, hrb, b1, b2] at h ⊢
    first | exact h | simp [h]
  · have hd0 := hd (by decide)
    have d1 := inN_grow hd0
    have d2 := tyOf_grow hd0
    simp [jF, cellF, grow_ins, grow_rt, hd0, d1, d2] at h ⊢
    first | exact h | simp [h]
  · have hra : inN c.vs.length a = true := by simpa [rdsF, rd1, rd2, rdL, rd2L] using hr
    have a1 := inN_grow hra
    have a2 := tyOf_grow hra
    simp [jF, freeF, grow_ins, grow_rt, hra, a1, a2] at h ⊢
    first | exact h | simp [h]
  · have hd0 := hd (by decide)
    have hra : inN c.vs.length a = true := by simpa [rdsF, rd1, rd2, rdL, rd2L] using hr
    have d1 := inN_grow hd0
    have d2 := tyOf_grow hd0
    have a1 := inN_grow hra
    have a2 := tyOf_grow hra
    simp [jF, isNF, grow_ins, grow_rt, hd0, d1, d2, hra, a1, a2] at h ⊢
    first | exact h | simp [h]
  · have hd0 := hd (by decide)
    have hr0 : xs.all (inN c.vs.length) = true := by simpa [rdsF] using hr
    have d1 := inN_grow hd0
    have d2 := tyOf_grow hd0
    have r1 := all_grow hr0
    rw [show jF ss cs c ⟨15, d, a, b, tt, el, f, n, l, cc, sg, xs, ms⟩ = callF cs c ⟨15, d, a, b, tt, el, f, n, l, cc, sg, xs, ms⟩ by simp [jF]] at h
    rw [show jF ss (growL cs) (growC c) ⟨15, d, a, b, tt, el, f, n, l, cc, sg, xs, ms⟩ = callF (growL cs) (growC c) ⟨15, d, a, b, tt, el, f, n, l, cc, sg, xs, ms⟩ by simp [jF]]
    simp only [callF, hd0, hr0, d1, r1, Bool.and_self, if_true] at h ⊢
    by_cases h0 : 0 ≤ f
    · simp only [if_pos h0] at h ⊢
      rw [List.getElem?_map]
      cases hg : cs[f.toNat]? with
      | none => simp [hg] at h
      | some g =>
        rw [hg] at h
        simp at h
        simp only [Option.map_some, calF] at h ⊢
        by_cases hq : (decide ((xs.length : Int) = g.pr) && decide (xs.length ≤ g.vs.length)) = true
        · rw [if_pos hq] at h
          simp only [Bool.and_eq_true, decide_eq_true_eq] at hq
          by_cases hz : (argsEq c xs g.vs && tyEq (tyOf c d) g.rt.t) = true
          · simp only [Bool.and_eq_true] at hz
            have e1 : (decide ((xs.length : Int) = (growC g).pr) && decide (xs.length ≤ (growC g).vs.length)) = true := by
              rw [grow_pr, grow_vs, List.length_append]
              simp only [Bool.and_eq_true, decide_eq_true_eq]
              exact ⟨hq.1, by omega⟩
            have e2 : (argsEq (growC c) xs (growC g).vs && tyEq (tyOf (growC c) d) (growC g).rt.t) = true := by
              rw [Bool.and_eq_true]
              exact ⟨args_grow c [v0D] hr0 hz.1, by rw [d2]; exact hz.2⟩
            rw [if_pos e1, if_pos e2]
          · rw [if_neg hz] at h
            exact absurd h (show ¬ (7 : Int) = 0 by decide)
        · rw [if_neg hq] at h
          exact absurd h (show ¬ (7 : Int) = 0 by decide)
    · simp only [if_neg h0] at h
      exact absurd h (show ¬ (15 : Int) = 0 by decide)
  · simp [jF, jumpF, grow_ins, grow_rt] at h ⊢
    first | exact h | simp [h]
  · have hra : inN c.vs.length a = true := by simpa [rdsF, rd1, rd2, rdL, rd2L] using hr
    have a1 := inN_grow hra
    have a2 := tyOf_grow hra
    simp [jF, askF, grow_ins, grow_rt, hra, a1, a2] at h ⊢
    first | exact h | simp [h]
  · have hra : inN c.vs.length a = true := by simpa [rdsF, rd1, rd2, rdL, rd2L] using hr
    have a1 := inN_grow hra
    have a2 := tyOf_grow hra
    simp [jF, retF, grow_ins, grow_rt, hra, a1, a2] at h ⊢
    first | exact h | simp [h]
theorem dup_two : ∀ {l : List Nm} {i j : Nat} {x y : Nm}, dup l = false → i < j → l[i]? = some x → l[j]? = some y → x = y → False
  | [], _, _, _, _, _, _, h, _, _ => by simp at h
  | a :: l, 0, j + 1, x, y, hd, _, h1, h2, e => by
    simp at h1 h2
    subst h1; subst e
    rw [dup, Bool.or_eq_false_iff] at hd
    have := hd.1
    rw [← Bool.not_eq_true, List.contains_iff_mem] at this
    exact this (List.mem_of_getElem? h2)
  | a :: l, i + 1, j + 1, x, y, hd, hij, h1, h2, e => by
    rw [dup, Bool.or_eq_false_iff] at hd
    exact dup_two (i := i) (j := j) hd.2 (by omega) (by simpa using h1) (by simpa using h2) e
  | _ :: _, 0, 0, _, _, _, h, _, _, _ => by omega
  | _ :: _, _ + 1, 0, _, _, _, h, _, _, _ => by omega
theorem first_zero {ss : List StD} {cs : List CoD} {c : CoD} : ∀ {l : List InD}, firstJ ss cs c l = 0 → ∀ r ∈ l, jF ss cs c r = 0
  | [], _, r, hr => by cases hr
  | a :: l, h, r, hr => by
    rw [firstJ] at h
    by_cases h0 : jF ss cs c a = 0
    · rw [if_pos h0] at h
      rcases List.mem_cons.1 hr with rfl | hr
      · exact h0
      · exact first_zero h r hr
    · rw [if_neg h0] at h
      exact absurd h h0
theorem firstC_zero {ss : List StD} {cs : List CoD} : ∀ {l : List CoD}, firstC ss cs l = 0 → ∀ c ∈ l, codF ss cs c = 0
  | [], _, c, hc => by cases hc
  | a :: l, h, c, hc => by
    rw [firstC] at h
    by_cases h0 : codF ss cs a = 0
    · rw [if_pos h0] at h
      rcases List.mem_cons.1 hc with rfl | hc
      · exact h0
      · exact firstC_zero h c hc
    · rw [if_neg h0] at h
      exact absurd h h0
theorem codF_grow {ss : List StD} {cs : List CoD} {c : CoD} (h : codF ss cs c = 0) (hv : c.vs.length < 300) : codF ss (growL cs) (growC c) = 0 := by
  rw [codF] at h
  by_cases h1 : 300 < c.vs.length ∨ c.ins.length = 0 ∨ 3000 < c.ins.length
  · rw [if_pos h1] at h; cases h
  rw [if_neg h1] at h
  by_cases h2 : c.pr < 0 ∨ (c.vs.length : Int) < c.pr
  · rw [if_pos h2] at h; cases h
  rw [if_neg h2] at h
  by_cases h3 : firstJ ss cs c c.ins = 0
  · rw [if_pos h3] at h
    have hz := first_zero h3
    have h4 : firstJ ss (growL cs) (growC c) c.ins = 0 := first_none (fun i u hi hu => jF_grow (hz u (List.mem_of_getElem? hu)))
    by_cases h5 : lastOp c.ins < 16
    · rw [if_pos h5] at h; cases h
    · have n1 : ¬ (300 < (growC c).vs.length ∨ (growC c).ins.length = 0 ∨ 3000 < (growC c).ins.length) := by
        rw [grow_vs, List.length_append, grow_ins]
        show ¬ (300 < c.vs.length + 1 ∨ _ ∨ _)
        omega
      have n2 : ¬ ((growC c).pr < 0 ∨ ((growC c).vs.length : Int) < (growC c).pr) := by
        rw [grow_vs, List.length_append, grow_pr]
        show ¬ (c.pr < 0 ∨ ((c.vs.length + 1 : Nat) : Int) < c.pr)
        omega
      rw [codF, if_neg n1, if_neg n2, grow_ins, if_pos h4, if_neg h5]
  · rw [if_neg h3] at h
    exact absurd h h3
theorem keys_grow (cs : List CoD) : (growL cs).map (·.nm) = cs.map (·.nm) := by
  rw [growL, List.map_map]; rfl
theorem idx_grow (s : ByteArray) : ∀ (cs : List CoD) (k : Int), idxL (coN s) (growL cs) k = idxL (coN s) cs k
  | [], _ => rfl
  | c :: cs, k => by
    show (if coN s (growC c) = true then k else idxL (coN s) (growL cs) (k + 1)) = (if coN s c = true then k else idxL (coN s) cs (k + 1))
    rw [idx_grow s cs]
    rfl
theorem un_grow {ss : List StD} {cs : List CoD} (h : unB ss cs = false) : unB ss (growL cs) = false := by
  rw [unB, Bool.or_eq_false_iff] at h ⊢
  refine ⟨h.1, List.any_eq_false.2 fun c' hc' => ?_⟩
  obtain ⟨c, hcm, rfl⟩ := List.mem_map.1 hc'
  have h1 := List.any_eq_false.1 h.2 c hcm
  have h2 : (tysC c).any (badB ss) = false := by simpa using h1
  have h3 : tysC (growC c) = tysC c ++ [v0D.t] := by simp [tysC, grow_rt, grow_vs]
  rw [h3, List.any_append, h2]
  simp [badB]
theorem main_grow (cs : List CoD) : mainF (growL cs) = mainF cs := by
  rw [mainF, mainF, idx_grow, List.getElem?_map]
  cases cs[(idxL (coN mainB) cs 0).toNat]? <;> rfl
/-- A module that is right is so with one variable more in each function. -/
theorem right_grow {ss : List StD} {cs : List CoD} (h : rightF ss cs = 0) (hv : ∀ c ∈ cs, c.vs.length < 300) : rightF ss (growL cs) = 0 := by
  rw [rightF] at h
  by_cases h1 : 30 < ss.length ∨ 60 < cs.length
  · rw [if_pos h1] at h; cases h
  rw [if_neg h1] at h
  cases h2 : twB ss cs
  case true => rw [h2] at h; cases h
  cases h3 : unB ss cs
  case true => rw [h2, h3] at h; cases h
  rw [h2, h3] at h
  have h' : (if firstC ss cs cs = 0 then mainF cs else firstC ss cs cs) = 0 := h
  by_cases h4 : firstC ss cs cs = 0
  · rw [if_pos h4] at h'
    have hz := firstC_zero h4
    have h5 : firstC ss (growL cs) (growL cs) = 0 := firstC_none (fun i u hi hu => by
      obtain ⟨c, hc, rfl⟩ := List.mem_map.1 (List.mem_of_getElem? hu)
      exact codF_grow (hz c hc) (hv c hc))
    have h6 : twB ss (growL cs) = false := by rw [twB, keys_grow]; exact h2
    rw [rightF, if_neg (by rw [growL, List.length_map]; exact h1), h6, un_grow h3]
    show (if firstC ss (growL cs) (growL cs) = 0 then mainF (growL cs) else firstC ss (growL cs) (growL cs)) = 0
    rw [if_pos h5, main_grow]
    exact h'
  · rw [if_neg h4] at h'
    exact absurd h' h4
/-- It has a function. -/
theorem right_some {ss : List StD} {cs : List CoD} (h : rightF ss cs = 0) : cs ≠ [] := by
  rintro rfl
  rw [rightF] at h
  by_cases h1 : 30 < ss.length ∨ 60 < ([] : List CoD).length
  · rw [if_pos h1] at h; cases h
  rw [if_neg h1] at h
  cases h2 : twB ss []
  case true => rw [h2] at h; cases h
  cases h3 : unB ss []
  case true => rw [h2, h3] at h; cases h
  rw [h2, h3] at h
  have h' : mainF [] = 0 := h
  revert h'
  decide
/-- They are not alike. -/
theorem same_grow {ss : List StD} {cs : List CoD} (h : cs ≠ []) : (eqL stEq ss ss && eqL coEq cs (growL cs)) = false := by
  cases cs with
  | nil => exact absurd rfl h
  | cons c cs =>
    have h1 : eqL vaEq c.vs (growC c).vs = false := eqL_len (by rw [grow_vs, List.length_append]; simp)
    have h2 : coEq c (growC c) = false := by rw [coEq, h1]; simp
    show (eqL stEq ss ss && (coEq c (growC c) && eqL coEq cs (growL cs))) = false
    rw [h2]
    simp
/-- Where no name is there twice each is found at its place. -/
theorem idx_self {cs : List CoD} (h : dup (keysOf (cs.map (·.nm))) = false) {k : Nat} {c : CoD} (hc : cs[k]? = some c) : idxL (coN c.nm) cs 0 = k := by
  have h1 := idx_at (p := coN c.nm) 0 hc (by simp [coN, sEq]) (fun j y hj hy => by
    cases hq : coN c.nm y
    · rfl
    · exfalso
      have he : y.nm.data.toList = c.nm.data.toList := by simpa [coN, sEq, ByteArray.toList_eq] using hq
      exact dup_two (x := y.nm.data.toList) (y := c.nm.data.toList) h hj (by simp [keysOf, hy]) (by simp [keysOf, hc]) he)
  simpa using h1
end Go.Proofs.Ytfhdiahjfnphkaa
