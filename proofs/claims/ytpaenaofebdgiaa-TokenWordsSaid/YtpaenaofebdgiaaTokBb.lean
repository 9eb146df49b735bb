/- The text of tokens is scanned to the same ones: the plain laws. No conditions. -/
import Derived.Test.YtpaenaofebdgiaaTokBa
import Derived.Lib.Join
namespace Go.Proofs.Ytpaenaofebdgiaa
open Go.RowKit
set_option linter.unusedVariables false
set_option linter.unusedSimpArgs false
theorem run_take (b : Bool) : ∀ l : List UInt8, runL b (l.take (runL b l)) = runL b l
  | [] => rfl
  | c :: r => by
    have ih := run_take b r
    by_cases hc : (digitB c || (b && letterB c)) = true
    · have e : runL b (c :: r) = runL b r + 1 := by simp only [runL]; rw [if_pos hc]
      rw [e, List.take_succ_cons]
      simp only [runL]
      rw [if_pos hc, ih]
    · have e : runL b (c :: r) = 0 := by simp only [runL]; rw [if_neg hc]
      rw [e]; rfl
theorem name_take {l text : List UInt8} {kind num size : Nat} (h : nameL l = .tok kind text num size) : nameL text = .tok kind text num size := by
  unfold nameL at h
  split at h
  · cases h
  · rename_i h40
    split at h
    · rename_i hw
      injection h with h1 h2 h3 h4; subst h1 h2 h3 h4
      unfold nameL
      rw [run_take, if_neg h40, List.take_take, Nat.min_self, if_pos hw]
    · rename_i hw
      injection h with h1 h2 h3 h4; subst h1 h2 h3 h4
      unfold nameL
      rw [run_take, if_neg h40, List.take_take, Nat.min_self, if_neg hw]
theorem number_take {l text : List UInt8} {kind num size : Nat} (h : numberL l = .tok kind text num size) (hz : 1 ≤ size) : numberL text = .tok kind text num size := by
  unfold numberL at h
  split at h
  · cases h
  · rename_i hc
    cases hv : numL (l.take (runL false l)) 0 with
    | none => rw [hv] at h; cases h
    | some v =>
      rw [hv] at h
      injection h with h1 h2 h3 h4; subst h1 h2 h3 h4
      have e1 : (l.take (runL false l)).head? = l.head? := by
        cases l with
        | nil => rfl
        | cons c r =>
          obtain ⟨n, hn⟩ : ∃ n, runL false (c :: r) = n + 1 := ⟨runL false (c :: r) - 1, by omega⟩
          rw [hn]; rfl
      have e2 : ((l.take (runL false l)).drop (runL false l)) = [] := List.drop_eq_nil_of_le (by rw [List.length_take]; omega)
      unfold numberL
      rw [run_take, e1, e2, if_neg, List.take_take, Nat.min_self, hv]
      rintro (q | q)
      · exact hc (.inl q)
      · simp at q
theorem sign_take {l text : List UInt8} {kind num size : Nat} (h : signL l = .tok kind text num size) : signL text = .tok kind text num size := by
  unfold signL at h
  split at h
  · cases h
  · rename_i h0
    injection h with h1 h2 h3 h4; subst h1 h2 h3 h4
    have e : signB (l.take (signB l)) = signB l := by
      unfold signB at h0 ⊢
      by_cases q : 1 < l.length ∧ signs2.contains (l.take 2) = true
      · rw [if_pos q]
        have : 1 < (l.take 2).length ∧ signs2.contains ((l.take 2).take 2) = true := ⟨by rw [List.length_take]; omega, by rw [List.take_take, Nat.min_self]; exact q.2⟩
        rw [if_pos this]
      · rw [if_neg q] at h0 ⊢
        cases l with
        | nil => simp at h0
        | cons c r =>
          simp only [] at h0 ⊢
          by_cases hc : signs1.contains c = true
          · rw [if_pos hc]
            have : ¬ (1 < ((c :: r).take 1).length ∧ signs2.contains (((c :: r).take 1).take 2) = true) := by simp
            rw [if_neg this]
            show (if signs1.contains c = true then 1 else 0) = 1
            rw [if_pos hc]
          · rw [if_neg hc] at h0; exact absurd rfl h0
    unfold signL
    rw [e, if_neg h0, List.take_take, Nat.min_self]
theorem read_take {l text : List UInt8} {kind num size : Nat} (h : readL l = .tok kind text num size) (h5 : kind ≠ 5) : readL text = .tok kind text num size := by
  obtain ⟨z1, z2, z3, z4, z5, z6⟩ := read_size h
  have z7 := z2 h5
  cases l with
  | nil => simp only [readL] at h; injection h with a; exact absurd a.symm h5
  | cons c r =>
    obtain ⟨n, rfl⟩ : ∃ n, size = n + 1 := ⟨size - 1, by omega⟩
    rw [List.take_succ_cons] at z4
    have e : readL text = if letterB c then nameL text else if digitB c then numberL text else signL text := by rw [z4]; rfl
    rw [e]
    simp only [readL] at h
    by_cases hc : letterB c = true
    · rw [if_pos hc] at h ⊢; exact name_take h
    · rw [if_neg hc] at h ⊢
      by_cases hd : digitB c = true
      · rw [if_pos hd] at h ⊢; exact number_take h z7
      · rw [if_neg hd] at h ⊢; exact sign_take h
theorem skR_tok {r r1 text y : List UInt8} {kind num size : Nat} (e : skR false r = r1) (h : readL r1 = .tok kind text num size) (h5 : kind ≠ 5) (hy : stops y) : skR false (text ++ y) = text ++ y := by
  obtain ⟨z1, z2, z3, z4, z5, z6⟩ := read_size h
  have z7 := z2 h5
  cases hr : r1 with
  | nil => rw [hr] at h; simp only [readL] at h; injection h with a; exact absurd a.symm h5
  | cons c q =>
    rw [hr] at z4 e
    obtain ⟨a1, a2, a3, a4⟩ := skR_ne (d := c) e
    obtain ⟨n, rfl⟩ : ∃ n, size = n + 1 := ⟨size - 1, by omega⟩
    rw [List.take_succ_cons] at z4
    rw [z4, List.cons_append]
    simp only [skR]
    have b1 : ¬ (c == 10) = true := by simpa using a1
    have b2 : ¬ ((c == 32 || c == 9) = true) := by simp; exact ⟨a2, a3⟩
    have b3 : ¬ ((c == 47 && (q.take n ++ y).head? == some 47) = true) := by
      simp only [Bool.and_eq_true, beq_iff_eq]
      rintro ⟨p1, p2⟩
      cases n with
      | zero =>
        simp at p2
        cases y with
        | nil => simp at p2
        | cons d y =>
          simp at p2
          rcases hy d y rfl with rfl | rfl <;> simp at p2
      | succ n =>
        cases q with
        | nil =>
          simp at p2
          cases y with
          | nil => simp at p2
          | cons d y =>
            simp at p2
            rcases hy d y rfl with rfl | rfl <;> simp at p2
        | cons d q => exact a4 ⟨p1, by simpa using p2⟩
    rw [if_neg b1, if_neg b2, if_neg b3]
theorem stops_nil : stops [] := fun c r h => by cases h
theorem stops_sp (x : List UInt8) : stops (32 :: x) := fun c r h => by injection h with a; exact .inr a.symm
theorem lex_text {r : List UInt8} {l : List Key} (h : Lex r l) : Lex (txtL l) l := by
  induction h with
  | fin e => exact .fin rfl
  | @tok r r1 kind num size text l e hr h5 hx ih =>
    obtain ⟨z1, z2, z3, z4, z5, z6⟩ := read_size hr
    have z7 := z2 h5
    have hlen : text.length = size := by rw [z4, List.length_take]; omega
    have hne : text ≠ [] := fun q => by rw [q] at hlen; simp at hlen; omega
    cases hx with
    | fin e2 =>
      have et : txtL [(kind, text, num), (5, [], 0)] = text := by simp [txtL]
      rw [et]
      refine .tok (r1 := text) (size := size) ?_ (read_take hr h5) h5 ?_
      · have := skR_tok e hr h5 stops_nil; simpa using this
      · rw [List.drop_eq_nil_of_le (by omega)]; exact .fin rfl
    | @tok _ r2 kind2 num2 size2 text2 l2 e2 hr2 h52 hx2 =>
      have et : txtL ((kind, text, num) :: (kind2, text2, num2) :: l2) = text ++ 32 :: txtL ((kind2, text2, num2) :: l2) := by
        rw [txtL, if_neg (fun q => h52 q.1)]
      rw [et]
      refine .tok (r1 := text ++ 32 :: txtL ((kind2, text2, num2) :: l2)) (size := size) (skR_tok e hr h5 (stops_sp _)) ?_ h5 ?_
      · rw [read_app _ _ (stops_sp _) hne]; exact read_take hr h5
      · rw [List.drop_append_of_le_length (by omega), List.drop_eq_nil_of_le (by omega), List.nil_append]
        exact lex_skip ih (by simp [skR])
theorem skR_len : ∀ (b : Bool) (r : List UInt8), (skR b r).length ≤ r.length
  | b, [] => by cases b <;> simp [skR]
  | true, c :: r => by
    simp only [skR]; split
    · have := skR_len false r; simp; omega
    · have := skR_len true r; simp; omega
  | false, c :: r => by
    simp only [skR]; split
    · have := skR_len false r; simp; omega
    · split
      · have := skR_len false r; simp; omega
      · split
        · have := skR_len true r; simp; omega
        · exact Nat.le_refl _
theorem text_len {r : List UInt8} {l : List Key} (h : Lex r l) : (txtL l).length ≤ 2 * r.length := by
  induction h with
  | fin e => simp [txtL]
  | @tok r r1 kind num size text l e hr h5 hx ih =>
    obtain ⟨z1, z2, z3, z4, z5, z6⟩ := read_size hr
    have z7 := z2 h5
    have hlen : text.length = size := by rw [z4, List.length_take]; omega
    have hk := skR_len false r
    rw [e] at hk
    rw [List.length_drop] at ih
    cases hx with
    | fin e2 =>
      have et : txtL [(kind, text, num), (5, [], 0)] = text := by simp [txtL]
      rw [et]; omega
    | @tok _ r2 kind2 num2 size2 text2 l2 e2 hr2 h52 hx2 =>
      have et : txtL ((kind, text, num) :: (kind2, text2, num2) :: l2) = text ++ 32 :: txtL ((kind2, text2, num2) :: l2) := by
        rw [txtL, if_neg (fun q => h52 q.1)]
      rw [et, List.length_append, List.length_cons]; omega
def joinK (l : List Key) : List UInt8 := Lib.join ((l.filter fun k => k.1 != 5).map (·.2.1)) [32]
theorem join_two (x y : List UInt8) (r : List (List UInt8)) : Lib.join (x :: y :: r) [32] = x ++ 32 :: Lib.join (y :: r) [32] := by
  rw [Lib.join_cons, Lib.join_cons]; simp [Lib.joinTail]
theorem join_text {r : List UInt8} {l : List Key} (h : Lex r l) : joinK l = txtL l := by
  induction h with
  | fin e => rfl
  | @tok r r1 kind num size text l e hr h5 hx ih =>
    cases hx with
    | fin e2 =>
      have et : txtL [(kind, text, num), (5, [], 0)] = text := by simp [txtL]
      rw [et]; unfold joinK; simp [h5, Lib.join_one]
    | @tok _ r2 kind2 num2 size2 text2 l2 e2 hr2 h52 hx2 =>
      have et : txtL ((kind, text, num) :: (kind2, text2, num2) :: l2) = text ++ 32 :: txtL ((kind2, text2, num2) :: l2) := by
        rw [txtL, if_neg (fun q => h52 q.1)]
      rw [et, ← ih]
      unfold joinK
      have e1 : (kind != 5) = true := by simpa using h5
      have e2 : (kind2 != 5) = true := by simpa using h52
      simp only [List.filter_cons, e1, e2, if_true, List.map_cons]
      exact join_two _ _ _
/-- Blanks ahead, and a comment behind. -/
theorem lex_around {src : List UInt8} {l : List Key} (h : Lex src l) : Lex ([32, 10, 9] ++ src ++ [10, 47, 47, 32, 120, 45, 62, 121]) l := by
  have h1 := lex_app h [47, 47, 32, 120, 45, 62, 121] (by decide)
  refine lex_skip h1 ?_
  simp [skR]
theorem lex_ne {r : List UInt8} {l : List Key} (h : Lex r l) : l ≠ [] := by cases h <;> simp
end Go.Proofs.Ytpaenaofebdgiaa
