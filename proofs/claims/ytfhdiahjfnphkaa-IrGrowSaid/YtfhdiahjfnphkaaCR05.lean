/- The first function, and struct, of a name. No conditions. -/
import Derived.Test.YtfhdiahjfnphkaaCR04
namespace Go.Proofs.Ytfhdiahjfnphkaa
open Go.RowKit Go.Maps
set_option linter.unusedVariables false
set_option linter.unusedSimpArgs false
/-- The place of the first one of which something holds. -/
def idxL {α : Type} (p : α → Bool) : List α → Int → Int
  | [], _ => -1
  | x :: l, k => if p x = true then k else idxL p l (k + 1)
theorem idx_at {α : Type} {p : α → Bool} : ∀ {l : List α} {i : Nat} {x : α} (k : Int), l[i]? = some x → p x = true → (∀ j y, j < i → l[j]? = some y → p y = false) → idxL p l k = k + i
  | [], i, x, k, h, _, _ => by simp at h
  | a :: l, 0, x, k, h, hp, _ => by
    simp at h
    subst h
    simp [idxL, hp]
  | a :: l, i + 1, x, k, h, hp, hq => by
    have h0 := hq 0 a (by omega) rfl
    simp at h
    rw [idxL, if_neg (by simp [h0]), idx_at (k + 1) h hp (fun j y hj hy => hq (j + 1) y (by omega) (by simpa using hy))]
    omega
theorem idx_no {α : Type} {p : α → Bool} : ∀ {l : List α} (k : Int), (∀ j y, j < l.length → l[j]? = some y → p y = false) → idxL p l k = -1
  | [], _, _ => rfl
  | a :: l, k, h => by
    have h0 := h 0 a (by simp) rfl
    rw [idxL, if_neg (by simp [h0]), idx_no (k + 1) (fun j y hj hy => h (j + 1) y (by simpa using hj) (by simpa using hy))]
abbrev coN (s : ByteArray) (c : CoD) : Bool := sEq c.nm s
abbrev stN (s : ByteArray) (c : StD) : Bool := sEq c.nm s
theorem is_co (x : CoD) (va fa ia : Option Addr) (vc fc ic : Nat) (s : ByteArray) (b : Nat) (r : Bool) (w : World) (hb : w.heap[b]? = some (.cells #[.string s] 9 (0, 0))) (hr : coN s x = r) :
    Calls Try.prog 31 #[.agg (CoV x va vc fa fc ia ic), .pointer (some ⟨b, 0, none⟩)] w fun e w' => e = .returned (.bool r) ∧ Hid (Below w.heap.size w w') := by
  have h0 := fun o => cells_at1 hb o 0
  have hr2 : (x.nm.toList == s.toList) = r := hr
  subst hr2
  clear hr
  go_enter Try.func31, Try.ntmps31
  go_wp2
  go_ret
  exact ⟨rfl, (Below.refl _ _).alloc (Nat.le_refl _) _⟩
theorem ix_co (xs : List CoD) (A : Option Addr) (c : Nat) (s : ByteArray) (bs : Nat) (w : World) (h1 : RowM 8 CoAt w A xs) (hb : w.heap[bs]? = some (.cells #[.string s] 9 (0, 0))) :
    Calls Try.prog 30 #[.slice A xs.length c, .func (.func 31) #[] #[.pointer (some ⟨bs, 0, none⟩)]] w fun e w' => e = .returned (.int .i64 (idxL (coN s) xs 0)) ∧ Hid (Below w.heap.size w w') := by
  have hl := h1.1
  obtain ⟨n, hn⟩ : ∃ n : Nat, xs.length = n := ⟨_, rfl⟩
  obtain ⟨q, hq⟩ : ∃ q, idxL (coN s) xs 0 = q := ⟨_, rfl⟩
  rw [hn, hq]
  rw [hn] at hl
  have H1 := hid h1
  have HN := hid hn
  have HQ := hid hq
  have HS := hid hb
  clear h1 hn hq hb
  go_enter Try.func30, Try.ntmps30
  go_wp2
  go_loopg [8] n (fun gk v8 wr => ∃ k : Nat, k ≤ n ∧ gk = n - k ∧ v8 = .int .i64 k ∧ Hid (Below w.heap.size w wr) ∧ Hid (∀ j y, j < k → xs[j]? = some y → coN s y = false))
  case atStart => exact ⟨0, by omega, rfl, rfl, hid (Below.refl _ _), hid (fun i x hi => absurd hi (by omega))⟩
  case round =>
    obtain ⟨k, hk, rfl, rfl, HB, HA⟩ := hrel
    by_cases hlt : k < n
    · have hlt' : (k : Int) < (n : Int) := by omega
      obtain ⟨x, hx⟩ := get_some HN.out hlt
      obtain ⟨b, o, rfl, hb1, va, vc, fa, fc, ia, ic, hc1, -⟩ := (H1.out.later co_stays HB.out).2 k x hx
      have d0 := hc1 0 _ rfl
      have d1 := hc1 1 _ rfl
      have d2 := hc1 2 _ rfl
      have d3 := hc1 3 _ rfl
      have d4 := hc1 4 _ rfl
      have d5 := hc1 5 _ rfl
      have d6 := hc1 6 _ rfl
      have d7 := hc1 7 _ rfl
      simp only [Nat.add_zero] at d0
      have HX := hid hx
      have HBA := HB
      have HS2 := hid (old_block HB.out (Array.getElem?_eq_some_iff.1 HS.out).1 HS.out)
      clear hx hc1
      cases e : coN s x
      case true =>
        have HE := hid e
        clear e
        have hf : q = k := by
          rw [← HQ.out, idx_at 0 HX.out HE.out HA.out]
          omega
        subst hf
        go_wp2_with (go_at_call 31; go_must (refine (is_co x va fa ia vc fc ic s bs true _ HS2.out HE.out).mono ?_); rintro e w3 ⟨rfl, hb3⟩)
        go_ret
        exact ⟨rfl, hid (after HBA.out hb3.out HBA.out.size)⟩
      case false =>
        have HE := hid e
        clear e
        go_wp2_with (go_at_call 31; go_must (refine (is_co x va fa ia vc fc ic s bs false _ HS2.out HE.out).mono ?_); rintro e w3 ⟨rfl, hb3⟩)
        go_roundg (n - (k + 1))
        case measure => omega
        case rel => exact ⟨k + 1, by omega, rfl, rfl, hid (after HBA.out hb3.out HBA.out.size), hid (fun i x' hi h1 => by
          by_cases hik : i < k
          · exact HA.out i x' hik h1
          · obtain rfl : i = k := by omega
            rw [HX.out] at h1
            cases h1
            exact HE.out)⟩
    · have hlt' : ¬ (k : Int) < (n : Int) := by omega
      have hf : q = -1 := by
        rw [← HQ.out, idx_no 0 (fun j y hj hy => HA.out j y (by have := HN.out; omega) hy)]
      subst hf
      go_wp2
      go_ret
      exact ⟨rfl, HB⟩
theorem func_co (ms : Value) (xs : List CoD) (A : Option Addr) (c : Nat) (s : ByteArray) (w : World) (h1 : RowM 8 CoAt w A xs) (hms : ∃ a n c, ms = .slice a n c) :
    Calls Try.prog 12 #[.agg #[ms, .slice A xs.length c], .string s] w fun e w' => e = .returned (.int .i64 (idxL (coN s) xs 0)) ∧ Hid (Below w.heap.size w w') := by
  obtain ⟨ma, mn, mc, rfl⟩ := hms
  have HB := hid (below2 w)
  have H1 := hid (fun o o2 => h1.later co_stays (below2 w o o2))
  have hn := heap_alloc_new (w.alloc (.cells #[.slice ma mn mc, .slice A xs.length c] 25)) (.cells #[.string s] 9)
  rw [World.size_alloc] at hn
  clear h1
  go_enter Try.func12, Try.ntmps12
  go_wp2_with (go_at_call 30; go_must (refine (ix_co xs A c s _ _ (H1.out _ _) hn).mono ?_); rintro e w2 ⟨rfl, hb2⟩)
  go_ret
  exact ⟨rfl, hid (after (HB.out _ _) hb2.out (HB.out _ _).size)⟩
theorem rfunc_co (ms : Value) (xs : List CoD) (A : Option Addr) (c : Nat) (s : ByteArray) (w : World) (h1 : RowM 8 CoAt w A xs) (hms : ∃ a n c, ms = .slice a n c) :
    Calls Try.prog 13 #[.agg #[ms, .slice A xs.length c], .string s] w fun e w' => e = .returned (.int .i64 (idxL (coN s) xs 0)) ∧ Hid (Below w.heap.size w w') := by
  obtain ⟨ma, mn, mc, rfl⟩ := hms
  have hl := h1.1
  obtain ⟨n, hn⟩ : ∃ n : Nat, xs.length = n := ⟨_, rfl⟩
  obtain ⟨q, hq⟩ : ∃ q, idxL (coN s) xs 0 = q := ⟨_, rfl⟩
  rw [hn, hq]
  rw [hn] at hl
  have H1 := hid h1
  have HN := hid hn
  have HQ := hid hq
  have HM := hid (heap_alloc_new w (.cells #[.slice ma mn mc, .slice A n c] 25))
  have HB0 := hid (below1 w (.cells #[.slice ma mn mc, .slice A n c] 25))
  clear h1 hn hq
  go_enter Try.func13, Try.ntmps13
  go_wp2
  go_loopg [5] n (fun gk v5 wr => ∃ k : Nat, k ≤ n ∧ gk = n - k ∧ v5 = .int .i64 k ∧ Hid (Below w.heap.size w wr) ∧ Hid (wr.heap[w.heap.size]? = some (.cells #[.slice ma mn mc, .slice A n c] 25 (0, 0))) ∧ Hid (∀ j y, j < k → xs[j]? = some y → coN s y = false))
  case atStart => exact ⟨0, by omega, rfl, rfl, HB0, HM, hid (fun i x hi => absurd hi (by omega))⟩
  case round =>
    obtain ⟨k, hk, rfl, rfl, HB, HM2, HA⟩ := hrel
    clear HM HB0
    have hm := cells_at HM2.out
    by_cases hlt : k < n
    · have hlt' : (k : Int) < (n : Int) := by omega
      obtain ⟨x, hx⟩ := get_some HN.out hlt
      obtain ⟨b, o, rfl, hb1, va, vc, fa, fc, ia, ic, hc1, -⟩ := (H1.out.later co_stays HB.out).2 k x hx
      have d0 := hc1 0 _ rfl
      simp only [Nat.add_zero] at d0
      have HX := hid hx
      clear hx hc1
      cases e : (x.nm.toList == s.toList)
      case true =>
        have hf : q = k := by
          rw [← HQ.out, idx_at 0 HX.out e HA.out]
          omega
        subst hf
        go_wp2
        go_ret
        exact ⟨rfl, HB⟩
      case false =>
        go_wp2
        go_roundg (n - (k + 1))
        case measure => omega
        case rel => exact ⟨k + 1, by omega, rfl, rfl, HB, HM2, hid (fun i x' hi h1 => by
          by_cases hik : i < k
          · exact HA.out i x' hik h1
          · obtain rfl : i = k := by omega
            rw [HX.out] at h1
            cases h1
            exact e)⟩
    · have hlt' : ¬ (k : Int) < (n : Int) := by omega
      have hf : q = -1 := by
        rw [← HQ.out, idx_no 0 (fun j y hj hy => HA.out j y (by have := HN.out; omega) hy)]
      subst hf
      go_wp2
      go_ret
      exact ⟨rfl, HB⟩
theorem is_st (x : StD) (fa : Option Addr) (fc : Nat) (s : ByteArray) (b : Nat) (r : Bool) (w : World) (hb : w.heap[b]? = some (.cells #[.string s] 9 (0, 0))) (hr : stN s x = r) :
    Calls Try.prog 33 #[.agg (StV x fa fc), .pointer (some ⟨b, 0, none⟩)] w fun e w' => e = .returned (.bool r) ∧ Hid (Below w.heap.size w w') := by
  have h0 := fun o => cells_at1 hb o 0
  have hr2 : (x.nm.toList == s.toList) = r := hr
  subst hr2
  clear hr
  go_enter Try.func33, Try.ntmps33
  go_wp2
  go_ret
  exact ⟨rfl, (Below.refl _ _).alloc (Nat.le_refl _) _⟩
theorem ix_st (xs : List StD) (A : Option Addr) (c : Nat) (s : ByteArray) (bs : Nat) (w : World) (h1 : RowM 4 StAt w A xs) (hb : w.heap[bs]? = some (.cells #[.string s] 9 (0, 0))) :
    Calls Try.prog 32 #[.slice A xs.length c, .func (.func 33) #[] #[.pointer (some ⟨bs, 0, none⟩)]] w fun e w' => e = .returned (.int .i64 (idxL (stN s) xs 0)) ∧ Hid (Below w.heap.size w w') := by
  have hl := h1.1
  obtain ⟨n, hn⟩ : ∃ n : Nat, xs.length = n := ⟨_, rfl⟩
  obtain ⟨q, hq⟩ : ∃ q, idxL (stN s) xs 0 = q := ⟨_, rfl⟩
  rw [hn, hq]
  rw [hn] at hl
  have H1 := hid h1
  have HN := hid hn
  have HQ := hid hq
  have HS := hid hb
  clear h1 hn hq hb
  go_enter Try.func32, Try.ntmps32
  go_wp2
  go_loopg [8] n (fun gk v8 wr => ∃ k : Nat, k ≤ n ∧ gk = n - k ∧ v8 = .int .i64 k ∧ Hid (Below w.heap.size w wr) ∧ Hid (∀ j y, j < k → xs[j]? = some y → stN s y = false))
  case atStart => exact ⟨0, by omega, rfl, rfl, hid (Below.refl _ _), hid (fun i x hi => absurd hi (by omega))⟩
  case round =>
    obtain ⟨k, hk, rfl, rfl, HB, HA⟩ := hrel
    by_cases hlt : k < n
    · have hlt' : (k : Int) < (n : Int) := by omega
      obtain ⟨x, hx⟩ := get_some HN.out hlt
      obtain ⟨b, o, rfl, hb1, fa, fc, hc1, -⟩ := (H1.out.later st_stays HB.out).2 k x hx
      have d0 := hc1 0 _ rfl
      have d1 := hc1 1 _ rfl
      have d2 := hc1 2 _ rfl
      have d3 := hc1 3 _ rfl
      simp only [Nat.add_zero] at d0
      have HX := hid hx
      have HBA := HB
      have HS2 := hid (old_block HB.out (Array.getElem?_eq_some_iff.1 HS.out).1 HS.out)
      clear hx hc1
      cases e : stN s x
      case true =>
        have HE := hid e
        clear e
        have hf : q = k := by
          rw [← HQ.out, idx_at 0 HX.out HE.out HA.out]
          omega
        subst hf
        go_wp2_with (go_at_call 33; go_must (refine (is_st x fa fc s bs true _ HS2.out HE.out).mono ?_); rintro e w3 ⟨rfl, hb3⟩)
        go_ret
        exact ⟨rfl, hid (after HBA.out hb3.out HBA.out.size)⟩
      case false =>
        have HE := hid e
        clear e
        go_wp2_with (go_at_call 33; go_must (refine (is_st x fa fc s bs false _ HS2.out HE.out).mono ?_); rintro e w3 ⟨rfl, hb3⟩)
        go_roundg (n - (k + 1))
        case measure => omega
        case rel => exact ⟨k + 1, by omega, rfl, rfl, hid (after HBA.out hb3.out HBA.out.size), hid (fun i x' hi h1 => by
          by_cases hik : i < k
          · exact HA.out i x' hik h1
          · obtain rfl : i = k := by omega
            rw [HX.out] at h1
            cases h1
            exact HE.out)⟩
    · have hlt' : ¬ (k : Int) < (n : Int) := by omega
      have hf : q = -1 := by
        rw [← HQ.out, idx_no 0 (fun j y hj hy => HA.out j y (by have := HN.out; omega) hy)]
      subst hf
      go_wp2
      go_ret
      exact ⟨rfl, HB⟩
theorem func_st (ms : Value) (xs : List StD) (A : Option Addr) (c : Nat) (s : ByteArray) (w : World) (h1 : RowM 4 StAt w A xs) (hms : ∃ a n c, ms = .slice a n c) :
    Calls Try.prog 14 #[.agg #[.slice A xs.length c, ms], .string s] w fun e w' => e = .returned (.int .i64 (idxL (stN s) xs 0)) ∧ Hid (Below w.heap.size w w') := by
  obtain ⟨ma, mn, mc, rfl⟩ := hms
  have HB := hid (below2 w)
  have H1 := hid (fun o o2 => h1.later st_stays (below2 w o o2))
  have hn := heap_alloc_new (w.alloc (.cells #[.slice A xs.length c, .slice ma mn mc] 25)) (.cells #[.string s] 9)
  rw [World.size_alloc] at hn
  clear h1
  go_enter Try.func14, Try.ntmps14
  go_wp2_with (go_at_call 32; go_must (refine (ix_st xs A c s _ _ (H1.out _ _) hn).mono ?_); rintro e w2 ⟨rfl, hb2⟩)
  go_ret
  exact ⟨rfl, hid (after (HB.out _ _) hb2.out (HB.out _ _).size)⟩
theorem rfunc_st (ms : Value) (xs : List StD) (A : Option Addr) (c : Nat) (s : ByteArray) (w : World) (h1 : RowM 4 StAt w A xs) (hms : ∃ a n c, ms = .slice a n c) :
    Calls Try.prog 15 #[.agg #[.slice A xs.length c, ms], .string s] w fun e w' => e = .returned (.int .i64 (idxL (stN s) xs 0)) ∧ Hid (Below w.heap.size w w') := by
  obtain ⟨ma, mn, mc, rfl⟩ := hms
  have hl := h1.1
  obtain ⟨n, hn⟩ : ∃ n : Nat, xs.length = n := ⟨_, rfl⟩
  obtain ⟨q, hq⟩ : ∃ q, idxL (stN s) xs 0 = q := ⟨_, rfl⟩
  rw [hn, hq]
  rw [hn] at hl
  have H1 := hid h1
  have HN := hid hn
  have HQ := hid hq
  have HM := hid (heap_alloc_new w (.cells #[.slice A n c, .slice ma mn mc] 25))
  have HB0 := hid (below1 w (.cells #[.slice A n c, .slice ma mn mc] 25))
  clear h1 hn hq
  go_enter Try.func15, Try.ntmps15
  go_wp2
  go_loopg [5] n (fun gk v5 wr => ∃ k : Nat, k ≤ n ∧ gk = n - k ∧ v5 = .int .i64 k ∧ Hid (Below w.heap.size w wr) ∧ Hid (wr.heap[w.heap.size]? = some (.cells #[.slice A n c, .slice ma mn mc] 25 (0, 0))) ∧ Hid (∀ j y, j < k → xs[j]? = some y → stN s y = false))
  case atStart => exact ⟨0, by omega, rfl, rfl, HB0, HM, hid (fun i x hi => absurd hi (by omega))⟩
  case round =>
    obtain ⟨k, hk, rfl, rfl, HB, HM2, HA⟩ := hrel
    clear HM HB0
    have hm := cells_at HM2.out
    by_cases hlt : k < n
    · have hlt' : (k : Int) < (n : Int) := by omega
      obtain ⟨x, hx⟩ := get_some HN.out hlt
      obtain ⟨b, o, rfl, hb1, fa, fc, hc1, -⟩ := (H1.out.later st_stays HB.out).2 k x hx
      have d0 := hc1 0 _ rfl
      simp only [Nat.add_zero] at d0
      have HX := hid hx
      clear hx hc1
      cases e : (x.nm.toList == s.toList)
      case true =>
        have hf : q = k := by
          rw [← HQ.out, idx_at 0 HX.out e HA.out]
          omega
        subst hf
        go_wp2
        go_ret
        exact ⟨rfl, HB⟩
      case false =>
        go_wp2
        go_roundg (n - (k + 1))
        case measure => omega
        case rel => exact ⟨k + 1, by omega, rfl, rfl, HB, HM2, hid (fun i x' hi h1 => by
          by_cases hik : i < k
          · exact HA.out i x' hik h1
          · obtain rfl : i = k := by omega
            rw [HX.out] at h1
            cases h1
            exact e)⟩
    · have hlt' : ¬ (k : Int) < (n : Int) := by omega
      have hf : q = -1 := by
        rw [← HQ.out, idx_no 0 (fun j y hj hy => HA.out j y (by have := HN.out; omega) hy)]
      subst hf
      go_wp2
      go_ret
      exact ⟨rfl, HB⟩
end Go.Proofs.Ytfhdiahjfnphkaa
