/- Tokens hang on the text alone, not on places: the plain laws. No conditions. -/
import Derived.Test.YtpaenaofebdgiaaTokW
namespace Go.Proofs.Ytpaenaofebdgiaa
open Go.RowKit
set_option linter.unusedVariables false
set_option linter.unusedSimpArgs false

/-- What is left behind blanks and comments. -/
def skR : Bool → List UInt8 → List UInt8
  | _, [] => []
  | true, c :: r => if c == 10 then skR false r else skR true r
  | false, c :: r => if c == 10 then skR false r else if c == 32 || c == 9 then skR false r else if c == 47 && r.head? == some 47 then skR true r else c :: r
theorem skR_drop (src : List UInt8) : ∀ (b : Bool) (r : List UInt8) (k l h : Nat), src.drop k = r → src.drop (skipL b r k l h).1 = skR b r
  | b, [], k, l, h, hd => by cases b <;> simpa [skipL, skR] using hd
  | true, c :: r, k, l, h, hd => by
    simp only [skipL, skR]; split
    · exact skR_drop src false r _ _ _ (drop_succ hd)
    · exact skR_drop src true r _ _ _ (drop_succ hd)
  | false, c :: r, k, l, h, hd => by
    simp only [skipL, skR]; split
    · exact skR_drop src false r _ _ _ (drop_succ hd)
    · split
      · exact skR_drop src false r _ _ _ (drop_succ hd)
      · split
        · exact skR_drop src true r _ _ _ (drop_succ hd)
        · exact hd
/-- A token without its place. -/
abbrev Key := Nat × List UInt8 × Nat
def keyT (t : T) : Key := (t.kind, t.text, t.num)
/-- A text is just these tokens. -/
inductive Lex : List UInt8 → List Key → Prop
  | fin {r : List UInt8} : skR false r = [] → Lex r [(5, [], 0)]
  | tok {r r1 : List UInt8} {kind num size : Nat} {text : List UInt8} {l : List Key} : skR false r = r1 → readL r1 = .tok kind text num size → kind ≠ 5 → Lex (r1.drop size) l → Lex r ((kind, text, num) :: l)
theorem lex_each (src : List UInt8) : ∀ (fuel k ln hd : Nat), (eachL src fuel k ln hd).2 = none → src.length - k < fuel → k ≤ src.length → hd ≤ k → ln ≤ k + 1 → Lex (src.drop k) ((eachL src fuel k ln hd).1.map keyT)
  | 0, k, ln, hd, _, hf, _, _, _ => by omega
  | fuel + 1, k, ln, hd, hn, hf, hk, hdk, hln => by
    obtain ⟨k1, l1, h1, hs⟩ : ∃ k1 l1 h1, skipL false (src.drop k) k ln hd = (k1, l1, h1) := ⟨_, _, _, rfl⟩
    have hb := skip_bd false (src.drop k) k ln hd hdk hln
    have hq := skR_drop src false (src.drop k) k ln hd rfl
    rw [hs] at hb hq
    simp only [List.length_drop] at hb hq
    obtain ⟨b1, b2, b3, b4⟩ := hb
    cases hr : readL (src.drop k1) with
    | bad f size => rw [eachL_bad hs hr] at hn; simp at hn
    | tok kind text num size =>
      obtain ⟨z1, z2, z3, z4, z5, z6⟩ := read_size hr
      rw [List.length_drop] at z1
      by_cases h5 : kind = 5
      · rw [eachL_end hs hr h5]
        have hnil := z3 h5
        rw [hnil] at hr
        simp only [readL] at hr
        injection hr with e1 e2 e3 e4
        subst e1 e2 e3
        exact .fin (by rw [← hq, hnil])
      · rw [eachL_on hs hr h5] at hn ⊢
        have z7 := z2 h5
        have ih := lex_each src fuel (k1 + size) l1 h1 hn (by omega) (by omega) (by omega) (by omega)
        exact .tok hq.symm hr h5 (by rw [List.drop_drop]; exact ih)
theorem lex_scan {src : List UInt8} (h : (scanL src).2 = none) : Lex src ((scanL src).1.map keyT) := by
  have := lex_each src (src.length + 1) 0 1 0 h (by omega) (by omega) (by omega) (by omega)
  rw [List.drop_zero] at this; exact this
theorem each_lex (src : List UInt8) : ∀ (fuel k ln hd : Nat) (l : List Key), Lex (src.drop k) l → src.length - k < fuel → k ≤ src.length → hd ≤ k → ln ≤ k + 1 → (eachL src fuel k ln hd).2 = none ∧ (eachL src fuel k ln hd).1.map keyT = l
  | 0, k, ln, hd, _, _, hf, _, _, _ => by omega
  | fuel + 1, k, ln, hd, l, hx, hf, hk, hdk, hln => by
    obtain ⟨k1, l1, h1, hs⟩ : ∃ k1 l1 h1, skipL false (src.drop k) k ln hd = (k1, l1, h1) := ⟨_, _, _, rfl⟩
    have hb := skip_bd false (src.drop k) k ln hd hdk hln
    have hq := skR_drop src false (src.drop k) k ln hd rfl
    rw [hs] at hb hq
    simp only [List.length_drop] at hb hq
    obtain ⟨b1, b2, b3, b4⟩ := hb
    cases hx with
    | fin e =>
      have hr : readL (src.drop k1) = .tok 5 [] 0 0 := by rw [hq, e]; rfl
      rw [eachL_end hs hr rfl]
      exact ⟨rfl, rfl⟩
    | @tok _ r1 kind num size text l' e hr h5 hx =>
      have hr1 : src.drop k1 = r1 := hq.trans e
      subst hr1
      obtain ⟨z1, z2, z3, z4, z5, z6⟩ := read_size hr
      rw [List.length_drop] at z1
      have z7 := z2 h5
      rw [List.drop_drop] at hx
      have ih := each_lex src fuel (k1 + size) l1 h1 l' hx (by omega) (by omega) (by omega) (by omega)
      rw [eachL_on hs hr h5]
      exact ⟨ih.1, by simp [ih.2, keyT]⟩
theorem scan_lex {src : List UInt8} {l : List Key} (h : Lex src l) : (scanL src).2 = none ∧ (scanL src).1.map keyT = l :=
  each_lex src (src.length + 1) 0 1 0 l (by simpa using h) (by omega) (by omega) (by omega) (by omega)
theorem lex_skip {r r' : List UInt8} {l : List Key} (h : Lex r l) (e : skR false r' = skR false r) : Lex r' l := by
  cases h with
  | fin q => exact .fin (e.trans q)
  | tok q hr h5 hx => exact .tok (e.trans q) hr h5 hx

/-- Bytes behind a line's end change nothing ahead. -/
theorem skR_app : ∀ (b : Bool) (r q : List UInt8), skR b (r ++ 10 :: q) = if skR b r = [] then skR false q else skR b r ++ 10 :: q
  | b, [], q => by cases b <;> simp [skR]
  | true, c :: r, q => by
    simp only [List.cons_append, skR]
    split
    · exact skR_app false r q
    · exact skR_app true r q
  | false, c :: r, q => by
    simp only [List.cons_append, skR]
    split
    · exact skR_app false r q
    · split
      · exact skR_app false r q
      · have e : (c == 47 && (r ++ 10 :: q).head? == some 47) = (c == 47 && r.head? == some 47) := by
          cases r with
          | nil => simp
          | cons d r => rfl
        rw [e]
        split
        · exact skR_app true r q
        · simp
/-- What stops a run of letters or digits. -/
def stops (y : List UInt8) : Prop := ∀ c r, y = c :: r → c = 10 ∨ c = 32
theorem run_app' (b : Bool) : ∀ (l y : List UInt8), stops y → runL b (l ++ y) = runL b l
  | [], y, h => by
    cases y with
    | nil => rfl
    | cons c r =>
      have e : (digitB c || (b && letterB c)) = false := by
        rcases h c r rfl with rfl | rfl <;> cases b <;> decide
      simp only [List.nil_append, runL]
      rw [e]; rfl
  | c :: l, y, h => by
    have ih := run_app' b l y h
    simp only [List.cons_append, runL]
    rw [ih]
theorem take_app {l y : List UInt8} {n : Nat} (h : n ≤ l.length) : (l ++ y).take n = l.take n := List.take_append_of_le_length h
theorem name_app (l y : List UInt8) (h : stops y) : nameL (l ++ y) = nameL l := by
  unfold nameL
  rw [run_app' true l y h, take_app (runL_le _ _)]
theorem number_app (l y : List UInt8) (h : stops y) (hl : l ≠ []) : numberL (l ++ y) = numberL l := by
  unfold numberL
  rw [run_app' false l y h, take_app (runL_le _ _)]
  have e1 : (l ++ y).head? = l.head? := by
    cases l with
    | nil => exact absurd rfl hl
    | cons c r => rfl
  have e2 : ((l ++ y).drop (runL false l)).head?.any letterB = (l.drop (runL false l)).head?.any letterB := by
    by_cases q : runL false l < l.length
    · rw [List.drop_append_of_le_length (runL_le _ _)]
      cases hd : l.drop (runL false l) with
      | nil => have := congrArg List.length hd; simp at this; omega
      | cons c r => rfl
    · have q2 := runL_le false l
      rw [List.drop_append_of_le_length (runL_le _ _), List.drop_eq_nil_of_le (by omega)]
      cases y with
      | nil => rfl
      | cons c r =>
        rcases h c r rfl with rfl | rfl
        · show letterB 10 = false; decide
        · show letterB 32 = false; decide
  simp only [e1, e2]
theorem sign_app (l y : List UInt8) (h : stops y) (hl : l ≠ []) : signB (l ++ y) = signB l := by
  cases l with
  | nil => exact absurd rfl hl
  | cons c r =>
    cases r with
    | cons d r =>
      unfold signB
      have e1 : (1 < ((c :: d :: r) ++ y).length ∧ signs2.contains (((c :: d :: r) ++ y).take 2) = true) ↔ (1 < (c :: d :: r).length ∧ signs2.contains ((c :: d :: r).take 2) = true) := by simp
      by_cases q : 1 < (c :: d :: r).length ∧ signs2.contains ((c :: d :: r).take 2) = true
      · rw [if_pos (e1.2 q), if_pos q]
      · rw [if_neg (fun p => q (e1.1 p)), if_neg q]; rfl
    | nil =>
      cases y with
      | nil => rfl
      | cons d y =>
        have hd := h d y rfl
        unfold signB
        have e1 : ¬ (1 < ([c] ++ d :: y).length ∧ signs2.contains (([c] ++ d :: y).take 2) = true) := by
          rintro ⟨-, q⟩
          have q2 := List.contains_iff_mem.1 q
          simp [signs2] at q2
          rcases hd with rfl | rfl <;> simp at q2
        have e2 : ¬ (1 < [c].length ∧ signs2.contains ([c].take 2) = true) := by simp
        rw [if_neg e1, if_neg e2]; rfl
theorem read_app (l y : List UInt8) (h : stops y) (hl : l ≠ []) : readL (l ++ y) = readL l := by
  cases l with
  | nil => exact absurd rfl hl
  | cons c r =>
    have e : readL (c :: r ++ y) = if letterB c then nameL (c :: r ++ y) else if digitB c then numberL (c :: r ++ y) else signL (c :: r ++ y) := rfl
    rw [e, name_app _ _ h, number_app _ _ h hl]
    unfold signL
    rw [sign_app _ _ h hl, take_app (signB_le _)]; rfl
theorem skR_ne {r : List UInt8} : ∀ {b : Bool} {c d : UInt8} {q : List UInt8}, skR b r = c :: q → c ≠ 10 ∧ c ≠ 32 ∧ c ≠ 9 ∧ ¬ (c = 47 ∧ q.head? = some 47) := by
  induction r with
  | nil => intro b c d q h; cases b <;> simp [skR] at h
  | cons x r ih =>
    intro b c d q h
    cases b with
    | true =>
      simp only [skR] at h
      split at h
      · exact ih (d := d) h
      · exact ih (d := d) h
    | false =>
      simp only [skR] at h
      split at h
      · exact ih (d := d) h
      · split at h
        · exact ih (d := d) h
        · split at h
          · exact ih (d := d) h
          · rename_i h1 h2 h3
            injection h with e1 e2
            subst e1 e2
            simp at h1 h2 h3
            exact ⟨h1, h2.1, h2.2, fun q => h3 q.1 q.2⟩
theorem lex_app {r : List UInt8} {l : List Key} (h : Lex r l) (q : List UInt8) (hq : skR false q = []) : Lex (r ++ 10 :: q) l := by
  induction h with
  | fin e => exact .fin (by rw [skR_app, if_pos e, hq])
  | @tok r r1 kind num size text l e hr h5 hx ih =>
    have hne : r1 ≠ [] := by
      intro e2; subst e2; simp only [readL] at hr; injection hr with a; exact h5 a.symm
    have hz := (read_size hr).1
    refine .tok (r1 := r1 ++ 10 :: q) (by rw [skR_app, if_neg (by rw [e]; exact hne), e]) (by rw [read_app _ _ (fun c r hc => by injection hc with a; exact .inl a.symm) hne]; exact hr) h5 ?_
    rw [List.drop_append_of_le_length hz]; exact ih
/-- The text of tokens, a blank between two. -/
def txtL : List Key → List UInt8
  | [] => []
  | [k] => if k.1 = 5 then [] else k.2.1
  | k :: k2 :: r => if k2.1 = 5 ∧ r = [] then k.2.1 else k.2.1 ++ 32 :: txtL (k2 :: r)
end Go.Proofs.Ytpaenaofebdgiaa
