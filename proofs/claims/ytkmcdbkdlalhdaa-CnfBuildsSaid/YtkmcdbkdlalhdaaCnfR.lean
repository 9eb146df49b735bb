/- CnfOrder, as a call: it returns true, and leaves what was as it was. No conditions. -/
import Derived.Test.YtkmcdbkdlalhdaaCnfQ
import Derived.Deep.RegionHeld3
namespace Go.Proofs.Ytkmcdbkdlalhdaa
open Go.RowKit Go.Maps Go.Lib Go.Sort
set_option linter.unusedVariables false
set_option linter.unusedSimpArgs false
theorem order_big (xs : List Int) (A A2 : Option Addr) (n cap nm cap2 B : Nat) (w : World) (h : Ints w B A n xs) (hno : light xs = false ∨ 100 < (nm : Int)) :
    Calls Try.prog 6 #[.slice A n cap, .slice A2 nm cap2] w fun e w' => e = .returned (.bool true) ∧ Hid (Below w.heap.size w w') := by
  have HC := hid (clause_i xs A n cap B w h)
  clear h
  cases hc : light xs
  · rw [hc] at HC
    clear hno
    go_enter Try.func6, Try.ntmps6
    go_wp2_with (first
      | (go_at_call 18; go_must (refine HC.out.mono ?_); rintro e w' ⟨rfl, hw⟩; obtain rfl := hw.symm)
      | (go_at_call 8; refine (alive_i _).mono ?_; rintro e w1 ⟨rfl, hb⟩))
    go_ret
    exact ⟨rfl, hb⟩
  · have h1 : 100 < (nm : Int) := by
      rcases hno with h | h
      · rw [hc] at h; cases h
      · exact h
    rw [hc] at HC
    clear hno
    go_enter Try.func6, Try.ntmps6
    go_wp2_with (first
      | (go_at_call 18; go_must (refine HC.out.mono ?_); rintro e w' ⟨rfl, hw⟩; obtain rfl := hw.symm)
      | (go_at_call 8; refine (alive_i _).mono ?_; rintro e w1 ⟨rfl, hb⟩))
    go_ret
    exact ⟨rfl, hb⟩
/-- Two formulas of one clause each, in memory. -/
structure TwoForms (w2 W : World) (N : Int) (u v : Value) : Prop where
  below : Below w2.heap.size w2 W
  a : W.heap[w2.heap.size]? = some (.cells #[u] 40 (0, 0))
  f : W.heap[w2.heap.size + 1]? = some (.cells #[.int .i64 N, .slice (some ⟨w2.heap.size, 0, none⟩) 1 1] 29 (0, 0))
  b : W.heap[w2.heap.size + 1 + 1]? = some (.cells #[v] 40 (0, 0))
  g : W.heap[w2.heap.size + 1 + 1 + 1]? = some (.cells #[.int .i64 N, .slice (some ⟨w2.heap.size + 1 + 1, 0, none⟩) 1 1] 29 (0, 0))
theorem two_forms (w2 : World) (N : Int) (u v : Value) : TwoForms w2 ((((w2.alloc (.cells #[u] 40)).alloc (.cells #[.int .i64 N, .slice (some ⟨w2.heap.size, 0, none⟩) 1 1] 29)).alloc (.cells #[v] 40)).alloc (.cells #[.int .i64 N, .slice (some ⟨w2.heap.size + 1 + 1, 0, none⟩) 1 1] 29)) N u v := by
  have e1 := heap_alloc_new w2 (.cells #[u] 40)
  have e2 := heap_alloc_new (w2.alloc (.cells #[u] 40)) (.cells #[.int .i64 N, .slice (some ⟨w2.heap.size, 0, none⟩) 1 1] 29)
  have e3 := heap_alloc_new ((w2.alloc (.cells #[u] 40)).alloc (.cells #[.int .i64 N, .slice (some ⟨w2.heap.size, 0, none⟩) 1 1] 29)) (.cells #[v] 40)
  have e4 := heap_alloc_new (((w2.alloc (.cells #[u] 40)).alloc (.cells #[.int .i64 N, .slice (some ⟨w2.heap.size, 0, none⟩) 1 1] 29)).alloc (.cells #[v] 40)) (.cells #[.int .i64 N, .slice (some ⟨w2.heap.size + 1 + 1, 0, none⟩) 1 1] 29)
  simp only [World.size_alloc] at e2 e3 e4
  refine ⟨(below3 _ _ _ _).alloc (by simp <;> omega) _, ?_, ?_, ?_, ?_⟩
  · exact old_block (below1 _ _) (by simp <;> omega) (old_block (below1 _ _) (by simp <;> omega) (old_block (below1 _ _) (by simp) e1))
  · exact old_block (below1 _ _) (by simp <;> omega) (old_block (below1 _ _) (by simp) e2)
  · exact old_block (below1 _ _) (by simp) e3
  · exact e4
theorem TwoForms.later {w2 W W' : World} {N : Int} {u v : Value} (h : TwoForms w2 W N u v) (hb : Below W.heap.size W W') : TwoForms w2 W' N u v := by
  have l := fun {k : Nat} {o : Obj} (q : W.heap[k]? = some o) => old_block hb (Array.getElem?_eq_some_iff.1 q).1 q
  exact ⟨h.below.trans (hb.mono h.below.size), l h.a, l h.f, l h.b, l h.g⟩
/-- A slice of one clause. -/
theorem one_list {W : World} {k : Nat} {v : Value} {xs : List Int} (h : W.heap[k]? = some (.cells #[v] 40 (0, 0))) (hi : IsInts W W.heap.size v xs) : Lists W W.heap.size (some ⟨k, 0, none⟩) 1 [xs] := by
  refine ⟨[v], ⟨rfl, .inr ⟨k, 0, rfl, (Array.getElem?_eq_some_iff.1 h).1, fun j u hu => ?_⟩⟩, rfl, fun i ys hy => ?_⟩
  · rw [Nat.zero_add, cells_at h, ← hu]
    match j with
    | 0 => rfl
    | j + 1 => simp
  · match i, hy with
    | 0, hy =>
      simp at hy
      subst hy
      exact ⟨v, rfl, hi⟩
    | i + 1, hy => simp at hy
theorem short1 {xs : List Int} (h : xs.length ≤ 200000) : Short [xs] := by
  intro k ys hy
  match k, hy with
  | 0, hy => simp at hy; subst hy; exact h
  | k + 1, hy => simp at hy
theorem eval_nrm (N : Int) (xs : List Int) (m : List Bool) : evalF N [nrm xs] m = evalF N [xs] m := by
  have h1 : ∀ p : Int → Bool, (nrm xs).all p = xs.all p := fun p => all_congr (mem_nrm xs) p
  have h2 : ∀ p : Int → Bool, (nrm xs).any p = xs.any p := fun p => any_congr (mem_nrm xs) p
  simp only [evalF, rightF, List.all_cons, List.all_nil, h1, h2]
theorem light_len {xs : List Int} (h : light xs = true) : xs.length ≤ 60 := by
  simp [light] at h; exact h.1
theorem isInts_mk {w : World} {B n c : Nat} {A : Option Addr} {xs : List Int} (h : Ints w B A n xs) (hc : n ≤ c) (hm : c ≤ 9223372036854775807) : IsInts w B (.slice A n c) xs := by
  have hn := h.len
  subst hn
  exact ⟨A, c, rfl, hc, hm, h⟩
set_option maxRecDepth 100000 in
set_option maxHeartbeats 8000000 in
theorem order_small (xs : List Int) (m : List Bool) (A A2 : Option Addr) (n cap nm cap2 : Nat) (w : World) (h : Ints w w.heap.size A n xs) (hm : Bools w w.heap.size A2 nm m) (hcap : n ≤ cap) (hcap2 : Hid (cap ≤ 9223372036854775807)) (hl : light xs = true) (h100 : nm ≤ 100) :
    Calls Try.prog 6 #[.slice A n cap, .slice A2 nm cap2] w fun e w' => e = .returned (.bool true) ∧ Hid (Below w.heap.size w w') := by
  have HC := hid (clause_i xs A n cap w.heap.size w h)
  rw [hl] at HC
  have hn60 : n ≤ 60 := by have := light_len hl; have := h.len; omega
  have h100' : ¬ 100 < (nm : Int) := by omega
  have HN1 := hid (norm_i xs A n cap w.heap.size w h (by omega))
  have HLE := hid (nrm_len xs)
  have HEV := hid (eval_nrm nm xs m)
  have HNN := hid (nrm_nrm xs)
  have HNL := hid h.len
  obtain ⟨ys, HY⟩ : ∃ ys, Hid (nrm xs = ys) := ⟨_, hid rfl⟩
  rw [HY.out] at HN1 HLE HEV HNN
  obtain ⟨k, HK⟩ : ∃ k, Hid (ys.length = k) := ⟨_, hid rfl⟩
  rw [HK.out] at HN1 HLE
  obtain ⟨r, HR⟩ : ∃ r, Hid (okN ys = r) := ⟨_, hid rfl⟩
  rw [HR.out] at HN1
  have hk60 : k ≤ 60 := by have := HLE.out; have := HNL.out; omega
  obtain ⟨t, HT⟩ : ∃ t, Hid (evalF nm [xs] m = t) := ⟨_, hid rfl⟩
  rw [HT.out] at HEV
  have HX := hid h
  have HM := hid hm
  clear h hm hl
  have F1 : True := trivial
  go_enter Try.func6, Try.ntmps6
  go_wp2_with (first
    | (go_at_call 18; go_must (refine HC.out.mono ?_); rintro e w' ⟨rfl, hw⟩; obtain rfl := hw.symm; clear hw)
    | (go_at_call 27; have hh := F1; clear F1; go_must (refine HN1.out.mono ?_); rintro e w1 ⟨A3, c3, rfl, HO1, HB1⟩
       have HN2 := hid (norm_i ys A3 k c3 w1.heap.size w1 HO1.out.ints (by omega))
       rw [HNN.out, HK.out, HR.out] at HN2)
    | (go_at_call 27; go_must (refine HN2.out.mono ?_); rintro e w2 ⟨A4, c4, rfl, HO2, HB2⟩))
  have HF := hid ((two_forms w2 nm (.slice A n cap) (.slice A3 k c3)).later (below_drew1 _))
  have HW2 := hid (after HB1.out HB2.out HB1.out.size)
  have HXS := hid (isInts_mk ((HX.out.below HW2.out).more HW2.out.size) hcap hcap2.out)
  have HYS := hid ((HO1.out.below HB2.out).isInts)
  have HI3 := hid ((HO1.out.below HB2.out).ints)
  have HI4 := hid (HO2.out.ints)
  have HMM := hid ((HM.out.below HW2.out).more HW2.out.size)
  have HS1 := hid (short1 (xs := xs) (by have := HNL.out; omega))
  have HS2 := hid (short1 (xs := ys) (by have := HK.out; omega))
  have HE1 := hid (fun W (q : TwoForms w2 W nm (.slice A n cap) (.slice A3 k c3)) => eval_i nm [xs] m (some ⟨w2.heap.size, 0, none⟩) A2 1 1 nm cap2 W.heap.size W (Nat.le_refl _) (one_list q.a ((HXS.out.below q.below).more q.below.size)) ((HMM.out.below q.below).more q.below.size) (by omega) (by omega) HS1.out)
  have HE2 := hid (fun W (q : TwoForms w2 W nm (.slice A n cap) (.slice A3 k c3)) => eval_i nm [ys] m (some ⟨w2.heap.size + 1 + 1, 0, none⟩) A2 1 1 nm cap2 W.heap.size W (Nat.le_refl _) (one_list q.b ((HYS.out.below q.below).more q.below.size)) ((HMM.out.below q.below).more q.below.size) (by omega) (by omega) HS2.out)
  rw [HT.out] at HE1
  rw [HEV.out] at HE2
  go_region_held3 (fun W => Hid (TwoForms w2 W nm (.slice A n cap) (.slice A3 k c3)) ∧ (∀ i, W.cell? ⟨w2.heap.size + 1, i, none⟩ = (#[Value.int .i64 nm, Value.slice (some ⟨w2.heap.size, 0, none⟩) 1 1] : Array Value)[i]?) ∧ (∀ i, W.cell? ⟨w2.heap.size + 1 + 1 + 1, i, none⟩ = (#[Value.int .i64 nm, Value.slice (some ⟨w2.heap.size + 1 + 1, 0, none⟩) 1 1] : Array Value)[i]?))
    (first | exact ⟨HF, cells_at HF.out.f, cells_at HF.out.g⟩ | exact ⟨HF1, cells_at HF1.out.f, cells_at HF1.out.g⟩ | exact ⟨HF2, cells_at HF2.out.f, cells_at HF2.out.g⟩ | exact ⟨HF3, cells_at HF3.out.f, cells_at HF3.out.g⟩ | exact ⟨HF4, cells_at HF4.out.f, cells_at HF4.out.g⟩)
    (first
      | (go_at_call 28; have tok := HF; clear HF; go_must (refine (numbers_t ys A3 A4 k c3 c4 _ _ _ (HI3.out.below tok.out.below) (HI4.out.below tok.out.below) (by omega)).mono ?_); rintro e w5 ⟨rfl, hb5⟩; have HF1 := hid (tok.out.later hb5.out); clear hb5 tok)
      | (go_at_call 12; have tok := HF1; clear HF1; go_must (refine (HE1.out _ tok.out).mono ?_); rintro e w6 ⟨rfl, hb6⟩; have HF2 := hid (tok.out.later hb6.out); clear hb6 tok)
      | (go_at_call 12; have tok := HF2; clear HF2; go_must (refine (HE2.out _ tok.out).mono ?_); rintro e w7 ⟨rfl, hb7⟩; have HF3 := hid (tok.out.later hb7.out); clear hb7 tok)
      | (go_at_call 8; have tok := HF3; clear HF3; go_must (refine (alive_i _).mono ?_); rintro e w8 ⟨rfl, hb8⟩; have HF4 := hid (tok.out.later hb8.out); clear hb8 tok))
  go_wp2
  go_ret
  exact ⟨rfl, hid (HW2.out.trans (HF4.out.below.mono HW2.out.size))⟩
theorem order_i (xs : List Int) (m : List Bool) (A A2 : Option Addr) (n cap nm cap2 : Nat) (w : World) (h : Ints w w.heap.size A n xs) (hm : Bools w w.heap.size A2 nm m) (hcap : n ≤ cap) (hcap2 : cap ≤ 9223372036854775807) :
    Calls Try.prog 6 #[.slice A n cap, .slice A2 nm cap2] w fun e w' => e = .returned (.bool true) ∧ Hid (Below w.heap.size w w') := by
  by_cases h1 : light xs = true ∧ nm ≤ 100
  · exact order_small xs m A A2 n cap nm cap2 w h hm hcap (hid hcap2) h1.1 h1.2
  · refine order_big xs A A2 n cap nm cap2 w.heap.size w h ?_
    cases hl : light xs
    · exact .inl rfl
    · right
      have : ¬ nm ≤ 100 := fun q => h1 ⟨hl, q⟩
      omega
end Go.Proofs.Ytkmcdbkdlalhdaa
