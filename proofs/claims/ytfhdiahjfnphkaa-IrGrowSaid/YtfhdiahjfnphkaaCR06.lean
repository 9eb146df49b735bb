/- Names that are there twice: by a map, and by places. No conditions. -/
import Derived.Test.YtfhdiahjfnphkaaCR05
import Derived.Maps.Views
import Derived.Test.YtfhdiahjfnphkaaCR04
namespace Go.Proofs.Ytfhdiahjfnphkaa
open Go.RowKit Go.Maps
set_option linter.unusedVariables false
set_option linter.unusedSimpArgs false
abbrev Nm := List UInt8
def dup : List Nm → Bool
  | [] => false
  | x :: l => l.contains x || dup l
theorem dup_snoc (x : Nm) : ∀ a : List Nm, dup (a ++ [x]) = (dup a || a.contains x)
  | [] => by simp [dup]
  | y :: a => by
    rw [List.cons_append, dup, dup_snoc x a, dup, Bool.eq_iff_iff]
    simp only [Bool.or_eq_true, List.contains_iff_mem, List.mem_append, List.mem_cons, List.mem_singleton, List.not_mem_nil, or_false]
    constructor
    · rintro ((h | h) | (h | h))
      · exact .inl (.inl h)
      · exact .inr (.inl h.symm)
      · exact .inl (.inr h)
      · exact .inr (.inr h)
    · rintro ((h | h) | (h | h))
      · exact .inl (.inl h)
      · exact .inr (.inl h)
      · exact .inl (.inr h.symm)
      · exact .inr (.inr h)
/-- The map of the first k names. -/
def mapN (l : List ByteArray) : Nat → DataW Unit
  | 0 => .map []
  | k + 1 => (mapN l k).put (.string ((l[k]?).getD ⟨#[]⟩).data.toList) (.lit (.int .i64 k))
abbrev keysOf (l : List ByteArray) : List Nm := l.map fun s => s.data.toList
theorem mapN_succ {l : List ByteArray} {k : Nat} {s : ByteArray} (h : l[k]? = some s) : mapN l (k + 1) = (mapN l k).put (.string s.data.toList) (.lit (.int .i64 k)) := by
  simp [mapN, h]
theorem isKey (t : Nm) : WideAt.IsKeyLit (.string t) := trivial
theorem mapN_tidy (l : List ByteArray) : ∀ k, Tidy (mapN l k)
  | 0 => tidy_empty
  | k + 1 => (mapN_tidy l k).put (isKey _) _
theorem has_mapN (l : List ByteArray) (t : Nm) : ∀ k, k ≤ l.length → has (mapN l k) (.string t) = ((keysOf l).take k).contains t
  | 0, _ => by simp [mapN, has]
  | k + 1, hk => by
    obtain ⟨s, hs⟩ := get_some (l := l) rfl hk
    have hm : (keysOf l)[k]? = some s.data.toList := by rw [List.getElem?_map, hs]; rfl
    rw [mapN_succ hs, List.take_add_one, hm]
    by_cases e : t = s.data.toList
    · subst e
      rw [has_put_same (mapN_tidy l k).isMap (isKey _)]
      simp
    · rw [has_put_other (by intro q; injection q with q; exact e q), has_mapN l t k (by omega), Bool.eq_iff_iff]
      simp [e]
theorem size_mapN (l : List ByteArray) : ∀ k, k ≤ l.length → size (mapN l k) ≤ k ∧ (size (mapN l k) = k ↔ dup ((keysOf l).take k) = false)
  | 0, _ => by simp [mapN, size, dup]
  | k + 1, hk => by
    obtain ⟨h1, h2⟩ := size_mapN l k (by omega)
    obtain ⟨s, hs⟩ := get_some (l := l) rfl hk
    have hm : (keysOf l)[k]? = some s.data.toList := by rw [List.getElem?_map, hs]; rfl
    rw [mapN_succ hs, List.take_add_one, hm, size_put (mapN_tidy l k), has_mapN l _ k (by omega)]
    show _ ∧ (_ ↔ dup ((keysOf l).take k ++ [s.data.toList]) = false)
    rw [dup_snoc]
    by_cases e : ((keysOf l).take k).contains s.data.toList = true
    · rw [if_pos e, e]
      refine ⟨by omega, ?_⟩
      simp
      omega
    · rw [if_neg e]
      have e' : ((keysOf l).take k).contains s.data.toList = false := by simpa using e
      rw [e', Bool.or_false, ← h2]
      omega
theorem dup_size (l : List ByteArray) : decide ((size (mapN l l.length) : Int) < (l.length : Int)) = dup (keysOf l) := by
  obtain ⟨h1, h2⟩ := size_mapN l l.length (Nat.le_refl _)
  rw [show (keysOf l).take l.length = keysOf l from List.take_of_length_le (by simp)] at h2
  cases hd : dup (keysOf l)
  · have := h2.2 hd
    simp; omega
  · have : ¬ size (mapN l l.length) = l.length := fun h => by have := h2.1 h; rw [hd] at this; cases this
    simp; omega
theorem lit_wf (k : Nat) (hk : k ≤ 9223372036854775807) : (Lit.int .i64 (k : Int)).wf = true := by
  have h1 : IntKind.i64.min ≤ (k : Int) := by show (-9223372036854775808 : Int) ≤ _; omega
  have h2 : (k : Int) ≤ IntKind.i64.max := by show _ ≤ (9223372036854775807 : Int); omega
  simp [Lit.wf, h1, h2]
  omega
end Go.Proofs.Ytfhdiahjfnphkaa
/- Names that are there twice, by a map. No conditions. -/
namespace Go.Proofs.Ytfhdiahjfnphkaa
open Go.RowKit Go.Maps
set_option linter.unusedVariables false
set_option linter.unusedSimpArgs false
theorem nm_fd (x : FdD)  (w : World) : Calls Try.prog 44 #[.agg (FdV x)] w fun e w' => e = .returned (.string x.nm) ∧ Hid (Below w.heap.size w w') := by
  go_enter Try.func44, Try.ntmps44
  go_wp2
  go_ret
  exact ⟨rfl, (Below.refl _ _).alloc (Nat.le_refl _) _⟩
set_option maxRecDepth 100000 in
set_option maxHeartbeats 4000000 in
theorem rep_fd (xs : List FdD) (A : Option Addr) (c : Nat) (r : Bool) (w : World) (h1 : RowM 5 FdAt w A xs) (hb : ∀ x ∈ xs, x.nm.size ≤ maxLen) (hr : dup (keysOf (xs.map (·.nm))) = r) :
    Calls Try.prog 43 #[.slice A xs.length c, .func (.func 44) #[] #[]] w fun e w' => e = .returned (.bool r) ∧ Hid (Below w.heap.size w w') := by
  have hl := h1.1
  obtain ⟨L, hL⟩ : ∃ L, xs.map (·.nm) = L := ⟨_, rfl⟩
  have hlen : xs.length = L.length := by rw [← hL, List.length_map]
  obtain ⟨n, hn⟩ : ∃ n : Nat, xs.length = n := ⟨_, rfl⟩
  have hn2 : L.length = n := hlen.symm.trans hn
  have hr2 : decide ((size (mapN L n) : Int) < (n : Int)) = r := by rw [← hr, hL, ← dup_size, hn2]
  rw [hn]
  rw [hn] at hl
  have hmm := @run_makeMap Try.prog
  have hown := hid (World.ownsMap_made w Try.prog 9 (plainElem (H := Unit) Try.prog 3))
  have HB := hid ((Below.refl w.heap.size w).alloc (Nat.le_refl _) (.map #[] 0))
  have H1 := hid h1
  have HN := hid hn
  have HLL := hid (fun (j : Nat) (x : FdD) (hx : xs[j]? = some x) => show L[j]? = some x.nm from by rw [← hL, List.getElem?_map, hx]; rfl)
  have HOk := hid hb
  have HR := hid hr2
  clear h1 hb hr hr2 hlen hn hn2 hL
  obtain ⟨B, hB⟩ : ∃ B, Hid (B = w.heap.size) := ⟨_, hid rfl⟩
  have hBW := hid (show B < (w.alloc (.map #[] 0)).heap.size from by rw [hB.out]; simp)
  go_enter Try.func43, Try.ntmps43
  go_wp2
  rw [← hB.out] at hown ⊢
  obtain ⟨W1, hW1⟩ : ∃ W1, w.alloc (.map #[] 0) = W1 := ⟨_, rfl⟩
  rw [hW1] at hown HB hBW ⊢
  clear hW1
  go_loopg [11] n (fun gk v11 wr => ∃ k : Nat, k ≤ n ∧ gk = n - k ∧ v11 = .int .i64 k ∧ Hid (Below w.heap.size w wr) ∧ Hid (wr.ownsMap Try.prog 9 (plainElem (H := Unit) Try.prog 3) B k (mapN L k)))
  case atStart => exact ⟨0, by omega, rfl, rfl, HB, hown⟩
  case round =>
    clear HB hown
    obtain ⟨k, hk, rfl, rfl, HBL, HO⟩ := hrel
    by_cases hlt : k < n
    · have hlt' : (k : Int) < (n : Int) := by omega
      obtain ⟨x, hx⟩ := get_some HN.out hlt
      obtain ⟨b, o, rfl, hb1, hc1⟩ := (H1.out.later fd_stays HBL.out).2 k x hx
      have d0 := hc1 0 _ rfl
      have d1 := hc1 1 _ rfl
      have d2 := hc1 2 _ rfl
      have d3 := hc1 3 _ rfl
      have d4 := hc1 4 _ rfl
      simp only [Nat.add_zero] at d0
      have HSz := hid (HOk.out x (List.mem_of_getElem? hx))
      have HLx := hid (mapN_succ (HLL.out k x hx))
      have hkm : k ≤ 9223372036854775807 := by omega
      clear hx hc1
      go_wp2_with (first
        | (go_at_call 44; refine (nm_fd x  _).mono ?_; rintro e w2 ⟨rfl, HB2⟩
           have HO2 := hid (map_below HO.out HB2.out))
        | (at_mapUpdate; go_must (refine wpList_mapUpdate_own _ rfl _ _ _ 68 rfl 9 3 (string_keyed Try.underlying9) Try.underlying68 _ B k _ rfl HO2.out (by unfold maxLen; omega) _ _ _ rfl rfl (WideMaps.keyOf_string_mk Try.underlying9 HSz.out) _ [] (plainElem_int Try.underlying3 (lit_wf k hkm)) ?_); intro w3 hown3 hgrow3; rw [← HLx.out] at hown3))
      all_goals go_roundg (n - (k + 1))
      case measure => omega
      case rel => exact ⟨k + 1, by omega, rfl, rfl, hid (step_grown HBL.out HB2.out hgrow3 (Nat.le_of_eq hB.out.symm)), hid hown3⟩
    · have hlt' : ¬ (k : Int) < (n : Int) := by omega
      obtain rfl : k = n := by omega
      have HO1 := HO.out
      have hr3 := HR.out
      cases r
      · have hr4 : ¬ (size (mapN L k) : Int) < (k : Int) := by simpa using hr3
        go_wp2_with (at_len; refine wpList_len_own _ rfl _ 68 rfl 9 3 Try.underlying68 (plainElem (H := Unit) Try.prog 3) _ k (mapN L k) rfl HO1 ?_)
        go_ret
        exact ⟨rfl, HBL⟩
      · have hr4 : (size (mapN L k) : Int) < (k : Int) := by simpa using hr3
        go_wp2_with (at_len; refine wpList_len_own _ rfl _ 68 rfl 9 3 Try.underlying68 (plainElem (H := Unit) Try.prog 3) _ k (mapN L k) rfl HO1 ?_)
        go_ret
        exact ⟨rfl, HBL⟩
theorem nm_st (x : StD) (fa : Option Addr) (fc : Nat) (w : World) : Calls Try.prog 46 #[.agg (StV x fa fc)] w fun e w' => e = .returned (.string x.nm) ∧ Hid (Below w.heap.size w w') := by
  go_enter Try.func46, Try.ntmps46
  go_wp2
  go_ret
  exact ⟨rfl, (Below.refl _ _).alloc (Nat.le_refl _) _⟩
set_option maxRecDepth 100000 in
set_option maxHeartbeats 4000000 in
theorem rep_st (xs : List StD) (A : Option Addr) (c : Nat) (r : Bool) (w : World) (h1 : RowM 4 StAt w A xs) (hb : ∀ x ∈ xs, x.nm.size ≤ maxLen) (hr : dup (keysOf (xs.map (·.nm))) = r) :
    Calls Try.prog 45 #[.slice A xs.length c, .func (.func 46) #[] #[]] w fun e w' => e = .returned (.bool r) ∧ Hid (Below w.heap.size w w') := by
  have hl := h1.1
  obtain ⟨L, hL⟩ : ∃ L, xs.map (·.nm) = L := ⟨_, rfl⟩
  have hlen : xs.length = L.length := by rw [← hL, List.length_map]
  obtain ⟨n, hn⟩ : ∃ n : Nat, xs.length = n := ⟨_, rfl⟩
  have hn2 : L.length = n := hlen.symm.trans hn
  have hr2 : decide ((size (mapN L n) : Int) < (n : Int)) = r := by rw [← hr, hL, ← dup_size, hn2]
  rw [hn]
  rw [hn] at hl
  have hmm := @run_makeMap Try.prog
  have hown := hid (World.ownsMap_made w Try.prog 9 (plainElem (H := Unit) Try.prog 3))
  have HB := hid ((Below.refl w.heap.size w).alloc (Nat.le_refl _) (.map #[] 0))
  have H1 := hid h1
  have HN := hid hn
  have HLL := hid (fun (j : Nat) (x : StD) (hx : xs[j]? = some x) => show L[j]? = some x.nm from by rw [← hL, List.getElem?_map, hx]; rfl)
  have HOk := hid hb
  have HR := hid hr2
  clear h1 hb hr hr2 hlen hn hn2 hL
  obtain ⟨B, hB⟩ : ∃ B, Hid (B = w.heap.size) := ⟨_, hid rfl⟩
  have hBW := hid (show B < (w.alloc (.map #[] 0)).heap.size from by rw [hB.out]; simp)
  go_enter Try.func45, Try.ntmps45
  go_wp2
  rw [← hB.out] at hown ⊢
  obtain ⟨W1, hW1⟩ : ∃ W1, w.alloc (.map #[] 0) = W1 := ⟨_, rfl⟩
  rw [hW1] at hown HB hBW ⊢
  clear hW1
  go_loopg [11] n (fun gk v11 wr => ∃ k : Nat, k ≤ n ∧ gk = n - k ∧ v11 = .int .i64 k ∧ Hid (Below w.heap.size w wr) ∧ Hid (wr.ownsMap Try.prog 9 (plainElem (H := Unit) Try.prog 3) B k (mapN L k)))
  case atStart => exact ⟨0, by omega, rfl, rfl, HB, hown⟩
  case round =>
    clear HB hown
    obtain ⟨k, hk, rfl, rfl, HBL, HO⟩ := hrel
    by_cases hlt : k < n
    · have hlt' : (k : Int) < (n : Int) := by omega
      obtain ⟨x, hx⟩ := get_some HN.out hlt
      obtain ⟨b, o, rfl, hb1, fa, fc, hc1, -⟩ := (H1.out.later st_stays HBL.out).2 k x hx
      have d0 := hc1 0 _ rfl
      have d1 := hc1 1 _ rfl
      have d2 := hc1 2 _ rfl
      have d3 := hc1 3 _ rfl
      simp only [Nat.add_zero] at d0
      have HSz := hid (HOk.out x (List.mem_of_getElem? hx))
      have HLx := hid (mapN_succ (HLL.out k x hx))
      have hkm : k ≤ 9223372036854775807 := by omega
      clear hx hc1
      go_wp2_with (first
        | (go_at_call 46; refine (nm_st x fa fc _).mono ?_; rintro e w2 ⟨rfl, HB2⟩
           have HO2 := hid (map_below HO.out HB2.out))
        | (at_mapUpdate; go_must (refine wpList_mapUpdate_own _ rfl _ _ _ 68 rfl 9 3 (string_keyed Try.underlying9) Try.underlying68 _ B k _ rfl HO2.out (by unfold maxLen; omega) _ _ _ rfl rfl (WideMaps.keyOf_string_mk Try.underlying9 HSz.out) _ [] (plainElem_int Try.underlying3 (lit_wf k hkm)) ?_); intro w3 hown3 hgrow3; rw [← HLx.out] at hown3))
      all_goals go_roundg (n - (k + 1))
      case measure => omega
      case rel => exact ⟨k + 1, by omega, rfl, rfl, hid (step_grown HBL.out HB2.out hgrow3 (Nat.le_of_eq hB.out.symm)), hid hown3⟩
    · have hlt' : ¬ (k : Int) < (n : Int) := by omega
      obtain rfl : k = n := by omega
      have HO1 := HO.out
      have hr3 := HR.out
      cases r
      · have hr4 : ¬ (size (mapN L k) : Int) < (k : Int) := by simpa using hr3
        go_wp2_with (at_len; refine wpList_len_own _ rfl _ 68 rfl 9 3 Try.underlying68 (plainElem (H := Unit) Try.prog 3) _ k (mapN L k) rfl HO1 ?_)
        go_ret
        exact ⟨rfl, HBL⟩
      · have hr4 : (size (mapN L k) : Int) < (k : Int) := by simpa using hr3
        go_wp2_with (at_len; refine wpList_len_own _ rfl _ 68 rfl 9 3 Try.underlying68 (plainElem (H := Unit) Try.prog 3) _ k (mapN L k) rfl HO1 ?_)
        go_ret
        exact ⟨rfl, HBL⟩
theorem nm_co (x : CoD) (va fa ia : Option Addr) (vc fc ic : Nat) (w : World) : Calls Try.prog 48 #[.agg (CoV x va vc fa fc ia ic)] w fun e w' => e = .returned (.string x.nm) ∧ Hid (Below w.heap.size w w') := by
  go_enter Try.func48, Try.ntmps48
  go_wp2
  go_ret
  exact ⟨rfl, (Below.refl _ _).alloc (Nat.le_refl _) _⟩
set_option maxRecDepth 100000 in
set_option maxHeartbeats 4000000 in
theorem rep_co (xs : List CoD) (A : Option Addr) (c : Nat) (r : Bool) (w : World) (h1 : RowM 8 CoAt w A xs) (hb : ∀ x ∈ xs, x.nm.size ≤ maxLen) (hr : dup (keysOf (xs.map (·.nm))) = r) :
    Calls Try.prog 47 #[.slice A xs.length c, .func (.func 48) #[] #[]] w fun e w' => e = .returned (.bool r) ∧ Hid (Below w.heap.size w w') := by
  have hl := h1.1
  obtain ⟨L, hL⟩ : ∃ L, xs.map (·.nm) = L := ⟨_, rfl⟩
  have hlen : xs.length = L.length := by rw [← hL, List.length_map]
  obtain ⟨n, hn⟩ : ∃ n : Nat, xs.length = n := ⟨_, rfl⟩
  have hn2 : L.length = n := hlen.symm.trans hn
  have hr2 : decide ((size (mapN L n) : Int) < (n : Int)) = r := by rw [← hr, hL, ← dup_size, hn2]
  rw [hn]
  rw [hn] at hl
  have hmm := @run_makeMap Try.prog
  have hown := hid (World.ownsMap_made w Try.prog 9 (plainElem (H := Unit) Try.prog 3))
  have HB := hid ((Below.refl w.heap.size w).alloc (Nat.le_refl _) (.map #[] 0))
  have H1 := hid h1
  have HN := hid hn
  have HLL := hid (fun (j : Nat) (x : CoD) (hx : xs[j]? = some x) => show L[j]? = some x.nm from by rw [← hL, List.getElem?_map, hx]; rfl)
  have HOk := hid hb
  have HR := hid hr2
  clear h1 hb hr hr2 hlen hn hn2 hL
  obtain ⟨B, hB⟩ : ∃ B, Hid (B = w.heap.size) := ⟨_, hid rfl⟩
  have hBW := hid (show B < (w.alloc (.map #[] 0)).heap.size from by rw [hB.out]; simp)
  go_enter Try.func47, Try.ntmps47
  go_wp2
  rw [← hB.out] at hown ⊢
  obtain ⟨W1, hW1⟩ : ∃ W1, w.alloc (.map #[] 0) = W1 := ⟨_, rfl⟩
  rw [hW1] at hown HB hBW ⊢
  clear hW1
  go_loopg [11] n (fun gk v11 wr => ∃ k : Nat, k ≤ n ∧ gk = n - k ∧ v11 = .int .i64 k ∧ Hid (Below w.heap.size w wr) ∧ Hid (wr.ownsMap Try.prog 9 (plainElem (H := Unit) Try.prog 3) B k (mapN L k)))
  case atStart => exact ⟨0, by omega, rfl, rfl, HB, hown⟩
  case round =>
    clear HB hown
    obtain ⟨k, hk, rfl, rfl, HBL, HO⟩ := hrel
    by_cases hlt : k < n
    · have hlt' : (k : Int) < (n : Int) := by omega
      obtain ⟨x, hx⟩ := get_some HN.out hlt
      obtain ⟨b, o, rfl, hb1, va, vc, fa, fc, ia, ic, hc1, -⟩ := (H1.out.later co_stays HBL.out).2 k x hx
      have d0 := hc1 0 _ rfl
      have d1 := hc1 1 _ rfl
      have d2 := hc1 2 _ rfl
      have d3 := hc1 3 _ rfl
      have d4 := hc1 4 _ rfl
      have d5 := hc1 5 _ rfl
      have d6 := hc1 6 _ rfl
      have d7 := hc1 7 _ rfl
      simp only [Nat.add_zero] at d0
      have HSz := hid (HOk.out x (List.mem_of_getElem? hx))
      have HLx := hid (mapN_succ (HLL.out k x hx))
      have hkm : k ≤ 9223372036854775807 := by omega
      clear hx hc1
      go_wp2_with (first
        | (go_at_call 48; refine (nm_co x va fa ia vc fc ic _).mono ?_; rintro e w2 ⟨rfl, HB2⟩
           have HO2 := hid (map_below HO.out HB2.out))
        | (at_mapUpdate; go_must (refine wpList_mapUpdate_own _ rfl _ _ _ 68 rfl 9 3 (string_keyed Try.underlying9) Try.underlying68 _ B k _ rfl HO2.out (by unfold maxLen; omega) _ _ _ rfl rfl (WideMaps.keyOf_string_mk Try.underlying9 HSz.out) _ [] (plainElem_int Try.underlying3 (lit_wf k hkm)) ?_); intro w3 hown3 hgrow3; rw [← HLx.out] at hown3))
      all_goals go_roundg (n - (k + 1))
      case measure => omega
      case rel => exact ⟨k + 1, by omega, rfl, rfl, hid (step_grown HBL.out HB2.out hgrow3 (Nat.le_of_eq hB.out.symm)), hid hown3⟩
    · have hlt' : ¬ (k : Int) < (n : Int) := by omega
      obtain rfl : k = n := by omega
      have HO1 := HO.out
      have hr3 := HR.out
      cases r
      · have hr4 : ¬ (size (mapN L k) : Int) < (k : Int) := by simpa using hr3
        go_wp2_with (at_len; refine wpList_len_own _ rfl _ 68 rfl 9 3 Try.underlying68 (plainElem (H := Unit) Try.prog 3) _ k (mapN L k) rfl HO1 ?_)
        go_ret
        exact ⟨rfl, HBL⟩
      · have hr4 : (size (mapN L k) : Int) < (k : Int) := by simpa using hr3
        go_wp2_with (at_len; refine wpList_len_own _ rfl _ 68 rfl 9 3 Try.underlying68 (plainElem (H := Unit) Try.prog 3) _ k (mapN L k) rfl HO1 ?_)
        go_ret
        exact ⟨rfl, HBL⟩
end Go.Proofs.Ytfhdiahjfnphkaa
/- What may be there once alone, in a module: by maps. No conditions. -/
namespace Go.Proofs.Ytfhdiahjfnphkaa
open Go.RowKit Go.Maps
set_option linter.unusedVariables false
set_option linter.unusedSimpArgs false
/-- Strings are of a size that may be. -/
def OkSt (s : StD) : Prop := s.nm.size ≤ maxLen ∧ ∀ f ∈ s.fs, f.nm.size ≤ maxLen ∧ f.t.name.size ≤ maxLen
def OkCo (c : CoD) : Prop := c.nm.size ≤ maxLen ∧ c.rt.t.name.size ≤ maxLen ∧ ∀ v ∈ c.vs, v.t.name.size ≤ maxLen
def OkM (ss : List StD) (cs : List CoD) : Prop := (∀ s ∈ ss, OkSt s) ∧ ∀ c ∈ cs, OkCo c
def fdN (s : StD) : Bool := dup (keysOf (s.fs.map (·.nm)))
def twB (ss : List StD) (cs : List CoD) : Bool := ss.any fdN || dup (keysOf (ss.map (·.nm))) || dup (keysOf (cs.map (·.nm)))
theorem any_at {α : Type} {p : α → Bool} {l : List α} {i : Nat} {x : α} (h : l[i]? = some x) (hp : p x = true) : l.any p = true := List.any_eq_true.2 ⟨x, List.mem_of_getElem? h, hp⟩
theorem any_no {α : Type} {p : α → Bool} {l : List α} (h : ∀ i x, i < l.length → l[i]? = some x → p x = false) : l.any p = false := by
  rw [List.any_eq_false]
  intro x hx
  obtain ⟨i, hi⟩ := List.getElem?_of_mem hx
  rw [h i x (List.getElem?_eq_some_iff.1 hi).1 hi]
  simp
theorem rep_st_n {xs : List StD} {n : Nat} (q : xs.length = n) (A : Option Addr) (c : Nat) (r : Bool) (w : World) (h1 : RowM 4 StAt w A xs) (hb : ∀ x ∈ xs, x.nm.size ≤ maxLen) (hr : dup (keysOf (xs.map (·.nm))) = r) :
    Calls Try.prog 45 #[.slice A n c, .func (.func 46) #[] #[]] w fun e w' => e = .returned (.bool r) ∧ Hid (Below w.heap.size w w') := by
  subst q; exact rep_st xs A c r w h1 hb hr
theorem rep_co_n {xs : List CoD} {n : Nat} (q : xs.length = n) (A : Option Addr) (c : Nat) (r : Bool) (w : World) (h1 : RowM 8 CoAt w A xs) (hb : ∀ x ∈ xs, x.nm.size ≤ maxLen) (hr : dup (keysOf (xs.map (·.nm))) = r) :
    Calls Try.prog 47 #[.slice A n c, .func (.func 48) #[] #[]] w fun e w' => e = .returned (.bool r) ∧ Hid (Below w.heap.size w w') := by
  subst q; exact rep_co xs A c r w h1 hb hr
set_option maxRecDepth 100000 in
set_option maxHeartbeats 8000000 in
theorem twice_i (ss : List StD) (cs : List CoD) (sa ca : Option Addr) (sc cc : Nat) (r : Bool) (w : World) (h1 : RowM 4 StAt w sa ss) (h2 : RowM 8 CoAt w ca cs) (hok : OkM ss cs) (hr : twB ss cs = r) :
    Calls Try.prog 34 #[.agg #[.slice sa ss.length sc, .slice ca cs.length cc]] w fun e w' => e = .returned (.bool r) ∧ Hid (Below w.heap.size w w') := by
  have hl := h1.1
  obtain ⟨n, hn⟩ : ∃ n : Nat, ss.length = n := ⟨_, rfl⟩
  obtain ⟨m, hm⟩ : ∃ n : Nat, cs.length = n := ⟨_, rfl⟩
  rw [hn, hm]
  rw [hn] at hl
  have H1 := hid (fun W (hb : Below w.heap.size w W) => h1.later st_stays hb)
  have H2 := hid (fun W (hb : Below w.heap.size w W) => h2.later co_stays hb)
  have HN := hid hn
  have HM := hid hm
  have HR := hid hr
  have HO := hid hok
  have HX := hid (heap_alloc_new w (.cells #[.slice sa n sc, .slice ca m cc] 25))
  have HB := hid (below1 w (.cells #[.slice sa n sc, .slice ca m cc] 25))
  clear h1 h2 hn hm hr hok
  go_enter Try.func34, Try.ntmps34
  have hx := cells_at HX.out
  go_wp2
  obtain ⟨W1, hW1⟩ : ∃ W1, w.alloc (.cells #[.slice sa n sc, .slice ca m cc] 25) = W1 := ⟨_, rfl⟩
  rw [hW1] at HX HB ⊢
  clear hW1 hx
  go_loopg [8] n (fun gk v8 wr => ∃ k : Nat, k ≤ n ∧ gk = n - k ∧ v8 = .int .i64 k ∧ Hid (Below w.heap.size w wr) ∧ Hid (wr.heap[w.heap.size]? = some (.cells #[.slice sa n sc, .slice ca m cc] 25 (0, 0))) ∧ Hid (∀ i x, i < k → ss[i]? = some x → fdN x = false))
  case atStart => exact ⟨0, by omega, by omega, rfl, HB, HX, hid (fun i x hi => absurd hi (by omega))⟩
  case round =>
    clear HB HX
    obtain ⟨k, hk, rfl, rfl, HB, HX, HA⟩ := hrel
    by_cases hlt : k < n
    · have hlt' : (k : Int) < (n : Int) := by omega
      obtain ⟨x, hx⟩ := get_some HN.out hlt
      obtain ⟨b, o, rfl, hb1, fa, fc, hc1, hm1⟩ := (H1.out _ HB.out).2 k x hx
      have d0 := hc1 0 _ rfl
      have d1 := hc1 1 _ rfl
      have d2 := hc1 2 _ rfl
      have d3 := hc1 3 _ rfl
      simp only [Nat.add_zero] at d0
      have HXX := hid hx
      have hW := below1 wr (.cells (StV x fa fc) 47)
      have HM1 := hid (hm1.later fd_stays hW)
      have HBW := hid (after HB.out hW HB.out.size)
      have HXW := hid (old_block hW (Array.getElem?_eq_some_iff.1 HX.out).1 HX.out)
      have HOx := hid (fun f hf => ((HO.out.1 x (List.mem_of_getElem? hx)).2 f hf).1)
      clear hx hc1 hm1 hW
      cases e : fdN x
      case true =>
        have HE := hid e
        have hf : r = true := HR.out.symm.trans (by rw [twB, any_at HXX.out e]; rfl)
        subst hf
        clear e
        go_wp2_with (go_at_call 43; go_must (refine (rep_fd x.fs fa fc true _ HM1.out HOx.out HE.out).mono ?_); rintro e w3 ⟨rfl, hb3⟩)
        go_ret
        exact ⟨rfl, hid (after HBW.out hb3.out HBW.out.size)⟩
      case false =>
        have HE := hid e
        clear e
        go_wp2_with (go_at_call 43; go_must (refine (rep_fd x.fs fa fc false _ HM1.out HOx.out HE.out).mono ?_); rintro e w3 ⟨rfl, hb3⟩)
        go_roundg (n - (k + 1))
        case measure => omega
        case rel => exact ⟨k + 1, by omega, rfl, rfl, hid (after HBW.out hb3.out HBW.out.size), hid (old_block hb3.out (Array.getElem?_eq_some_iff.1 HXW.out).1 HXW.out), hid (fun i x' hi h1 => by
          by_cases hik : i < k
          · exact HA.out i x' hik h1
          · obtain rfl : i = k := by omega
            rw [HXX.out] at h1
            cases h1
            exact HE.out)⟩
    · have hlt' : ¬ (k : Int) < (n : Int) := by omega
      have HR2 : Hid ((dup (keysOf (ss.map (·.nm))) || dup (keysOf (cs.map (·.nm)))) = r) := hid (by
        rw [← HR.out, twB, any_no (fun i x hi h1 => HA.out i x (by have := HN.out; omega) h1), Bool.false_or])
      have hx := cells_at HX.out
      cases e : dup (keysOf (ss.map (·.nm)))
      case true =>
        have HE := hid e
        have hf : r = true := HR2.out.symm.trans (by rw [e]; rfl)
        subst hf
        clear e
        go_wp2_with (go_at_call 45; go_must (refine (rep_st_n HN.out sa sc true _ (H1.out _ HB.out) (fun x hx => (HO.out.1 x hx).1) HE.out).mono ?_); rintro e w3 ⟨rfl, hb3⟩)
        go_ret
        exact ⟨rfl, hid (after HB.out hb3.out HB.out.size)⟩
      case false =>
        have HE := hid e
        have HF : Hid (dup (keysOf (cs.map (·.nm))) = r) := hid (by rw [← HR2.out, e]; rfl)
        clear e
        go_wp2_with (first
          | (go_at_call 45; go_must (refine (rep_st_n HN.out sa sc false _ (H1.out _ HB.out) (fun x hx => (HO.out.1 x hx).1) HE.out).mono ?_); rintro e w3 ⟨rfl, hb3⟩; have HB3 := hid (after HB.out hb3.out HB.out.size); have hx3 := cells_at (old_block hb3.out (Array.getElem?_eq_some_iff.1 HX.out).1 HX.out))
          | (go_at_call 47; go_must (refine (rep_co_n HM.out ca cc r _ (H2.out _ HB3.out) (fun x hx => (HO.out.2 x hx).1) HF.out).mono ?_); rintro e w4 ⟨rfl, hb4⟩))
        all_goals go_ret
        all_goals exact ⟨by first | rfl | simp, hid (after HB3.out hb4.out HB3.out.size)⟩
end Go.Proofs.Ytfhdiahjfnphkaa
/- A module that came in, opened, with the sizes of its strings. No conditions. -/
namespace Go.Proofs.Ytfhdiahjfnphkaa
open Go.RowKit Go.ChangeShapes Go.WideShapes Go.Deep
set_option linter.unusedVariables false
set_option linter.unusedSimpArgs false
set_option maxRecDepth 100000
section
variable {H : Type} {enc : TypeId × Value → H} {w : World} {base : Nat} {spare : Nat → Bool} {held : Bool}
theorem tr_strz {n t : Nat} {v : Value} {o : Option (DataW H × List MemPlace)} (ht : Try.prog.underlying t = some .string) (h : DataW.trod enc Try.prog w base spare held n t [v] = o) (ho : o.isSome = true) : ∃ m : ByteArray, v = .string m ∧ m.size ≤ maxLen := by
  obtain ⟨y, hy⟩ := Option.isSome_iff_exists.1 ho
  obtain ⟨m, hc, -, hs⟩ := DataW.trod_string ht (h.trans hy)
  exact ⟨m, by simpa using hc, hs⟩
/-- A row whose elements are such. -/
theorem row_and {α : Type} {k : Nat} {P : World → Nat → Nat → α → Prop} {S : α → Prop} {W : World} {A : Option Addr} {l : List α} (h : RowM k (fun W b o x => P W b o x ∧ S x) W A l) : RowM k P W A l ∧ ∀ x ∈ l, S x := by
  refine ⟨⟨h.1, fun i x hx => ?_⟩, fun x hx => ?_⟩
  · obtain ⟨b, o, e, hlt, hp⟩ := h.2 i x hx
    exact ⟨b, o, e, hlt, hp.1⟩
  · obtain ⟨i, hi, rfl⟩ := List.mem_iff_getElem.1 hx
    obtain ⟨b, o, e, hlt, hp⟩ := h.2 i _ (List.getElem?_eq_getElem hi)
    exact hp.2
theorem open_tyz {fuel : Nat} {cs : List Value} {x : DataW H × List MemPlace} (h : DataW.trod enc Try.prog w base spare held fuel 31 cs = some x) : ∃ t : TyD, cs = [.bool t.p, .string t.name] ∧ t.name.size ≤ maxLen := by
  obtain ⟨us, l, -, -, hlen, hul, hk⟩ := DataW.trod_struct Try.underlying31 h
  have c31 : Try.prog.cellsOf 31 = 2 := by kernel_rfl
  have c4 : Try.prog.cellsOf 4 = 1 := by kernel_rfl
  have c9 : Try.prog.cellsOf 9 = 1 := by kernel_rfl
  rw [c31] at hlen
  have hul2 : us.length = 2 := hul
  match cs, hlen with
  | [v0, v1], _ =>
    have f0 : DataW.trod enc Try.prog w base spare held l 4 (List.take (Try.prog.cellsOf 4) [v0, v1]) = us[0]? := hk 0 _ rfl
    have f1 : DataW.trod enc Try.prog w base spare held l 9 (List.take (Try.prog.cellsOf 9) [v1]) = us[1]? := hk 1 _ rfl
    rw [c4] at f0
    rw [c9] at f1
    obtain ⟨p, rfl⟩ := tr_bool Try.underlying4 f0 (at_some hul2 (by omega))
    obtain ⟨s, rfl, hs⟩ := tr_strz Try.underlying9 f1 (at_some hul2 (by omega))
    exact ⟨⟨p, s⟩, rfl, hs⟩
theorem open_vaz {fuel : Nat} {cs : List Value} {x : DataW H × List MemPlace} (h : DataW.trod enc Try.prog w base spare held fuel 33 cs = some x) : ∃ v : VaD, cs.toArray = VaV v ∧ v.t.name.size ≤ maxLen := by
  obtain ⟨us, l, -, -, hlen, hul, hk⟩ := DataW.trod_struct Try.underlying33 h
  have c33 : Try.prog.cellsOf 33 = 3 := by kernel_rfl
  have c31 : Try.prog.cellsOf 31 = 2 := by kernel_rfl
  have c3 : Try.prog.cellsOf 3 = 1 := by kernel_rfl
  rw [c33] at hlen
  have hul2 : us.length = 2 := hul
  match cs, hlen with
  | [v0, v1, v2], _ =>
    have f0 : DataW.trod enc Try.prog w base spare held l 31 (List.take (Try.prog.cellsOf 31) [v0, v1, v2]) = us[0]? := hk 0 _ rfl
    have f1 : DataW.trod enc Try.prog w base spare held l 3 (List.take (Try.prog.cellsOf 3) [v2]) = us[1]? := hk 1 _ rfl
    rw [c31] at f0
    rw [c3] at f1
    obtain ⟨y0, hy0⟩ := Option.isSome_iff_exists.1 (at_some (l := us) (i := 0) hul2 (by omega))
    obtain ⟨t, ht, hts⟩ := open_tyz (cs := [v0, v1]) (f0.trans hy0)
    obtain ⟨s, rfl⟩ := tr_int Try.underlying3 f1 (at_some hul2 (by omega))
    simp at ht
    obtain ⟨rfl, rfl⟩ := ht
    exact ⟨⟨t, s⟩, rfl, hts⟩
theorem open_fdz {fuel : Nat} {cs : List Value} {x : DataW H × List MemPlace} (h : DataW.trod enc Try.prog w base spare held fuel 62 cs = some x) : ∃ v : FdD, cs.toArray = FdV v ∧ (v.nm.size ≤ maxLen ∧ v.t.name.size ≤ maxLen) := by
  obtain ⟨us, l, -, -, hlen, hul, hk⟩ := DataW.trod_struct Try.underlying62 h
  have c62 : Try.prog.cellsOf 62 = 5 := by kernel_rfl
  have c31 : Try.prog.cellsOf 31 = 2 := by kernel_rfl
  have c45 : Try.prog.cellsOf 45 = 2 := by kernel_rfl
  have c9 : Try.prog.cellsOf 9 = 1 := by kernel_rfl
  rw [c62] at hlen
  have hul2 : us.length = 3 := hul
  match cs, hlen with
  | [v0, v1, v2, v3, v4], _ =>
    have f0 : DataW.trod enc Try.prog w base spare held l 9 (List.take (Try.prog.cellsOf 9) [v0, v1, v2, v3, v4]) = us[0]? := hk 0 _ rfl
    have f1 : DataW.trod enc Try.prog w base spare held l 31 (List.take (Try.prog.cellsOf 31) [v1, v2, v3, v4]) = us[1]? := hk 1 _ rfl
    have f2 : DataW.trod enc Try.prog w base spare held l 45 (List.take (Try.prog.cellsOf 45) [v3, v4]) = us[2]? := hk 2 _ rfl
    rw [c9] at f0
    rw [c31] at f1
    rw [c45] at f2
    obtain ⟨s, rfl, hs⟩ := tr_strz Try.underlying9 f0 (at_some hul2 (by omega))
    obtain ⟨y1, hy1⟩ := Option.isSome_iff_exists.1 (at_some (l := us) (i := 1) hul2 (by omega))
    obtain ⟨t, ht, hts⟩ := open_tyz (cs := [v1, v2]) (f1.trans hy1)
    obtain ⟨y2, hy2⟩ := Option.isSome_iff_exists.1 (at_some (l := us) (i := 2) hul2 (by omega))
    obtain ⟨p, q, hp⟩ := open_pos (cs := [v3, v4]) (f2.trans hy2)
    simp at ht hp
    obtain ⟨rfl, rfl⟩ := ht
    obtain ⟨rfl, rfl⟩ := hp
    exact ⟨⟨s, t, p, q⟩, rfl, hs, hts⟩
theorem open_stz {fuel : Nat} {cs : List Value} {x : DataW H × List MemPlace} (h : DataW.trod enc Try.prog w base spare held fuel 47 cs = some x) :
    ∃ (s : StD) (fa : Option Addr) (fc : Nat), cs.toArray = StV s fa fc ∧ FdsM w fa s.fs ∧ OkSt s := by
  obtain ⟨us, l, -, -, hlen, hul, hk⟩ := DataW.trod_struct Try.underlying47 h
  have c47 : Try.prog.cellsOf 47 = 4 := by kernel_rfl
  have c43 : Try.prog.cellsOf 43 = 1 := by kernel_rfl
  have c45 : Try.prog.cellsOf 45 = 2 := by kernel_rfl
  have c9 : Try.prog.cellsOf 9 = 1 := by kernel_rfl
  rw [c47] at hlen
  have hul2 : us.length = 3 := hul
  match cs, hlen with
  | [v0, v1, v2, v3], _ =>
    have f0 : DataW.trod enc Try.prog w base spare held l 9 (List.take (Try.prog.cellsOf 9) [v0, v1, v2, v3]) = us[0]? := hk 0 _ rfl
    have f1 : DataW.trod enc Try.prog w base spare held l 43 (List.take (Try.prog.cellsOf 43) [v1, v2, v3]) = us[1]? := hk 1 _ rfl
    have f2 : DataW.trod enc Try.prog w base spare held l 45 (List.take (Try.prog.cellsOf 45) [v2, v3]) = us[2]? := hk 2 _ rfl
    rw [c9] at f0
    rw [c43] at f1
    rw [c45] at f2
    obtain ⟨s, rfl, hs⟩ := tr_strz Try.underlying9 f0 (at_some hul2 (by omega))
    obtain ⟨y1, hy1⟩ := Option.isSome_iff_exists.1 (at_some (l := us) (i := 1) hul2 (by omega))
    obtain ⟨fa, fc, fs, rfl, hfs⟩ := open_row ⟨⟨#[]⟩, ⟨false, ⟨#[]⟩⟩, 0, 0⟩ (fun W b o x => FdAt W b o x ∧ (x.nm.size ≤ maxLen ∧ x.t.name.size ≤ maxLen)) Try.underlying43 (k := 5) (by kernel_rfl) (by decide) (fun n cs x hx => by
      obtain ⟨v, hv, hz⟩ := open_fdz hx
      exact ⟨v, fun b o hh => ⟨by rw [hv] at hh; exact hh, hz⟩⟩) (f1.trans hy1)
    obtain ⟨y2, hy2⟩ := Option.isSome_iff_exists.1 (at_some (l := us) (i := 2) hul2 (by omega))
    obtain ⟨p, q, hp⟩ := open_pos (cs := [v2, v3]) (f2.trans hy2)
    simp at hp
    obtain ⟨rfl, rfl⟩ := hp
    exact ⟨⟨s, fs, p, q⟩, fa, fc, rfl, (row_and hfs).1, hs, (row_and hfs).2⟩
theorem open_coz {fuel : Nat} {cs : List Value} {x : DataW H × List MemPlace} (h : DataW.trod enc Try.prog w base spare held fuel 37 cs = some x) :
    ∃ (c : CoD) (va fa ia : Option Addr) (vc fc ic : Nat), cs.toArray = CoV c va vc fa fc ia ic ∧ CoM w c va fa ia ∧ OkCo c := by
  obtain ⟨us, l, -, -, hlen, hul, hk⟩ := DataW.trod_struct Try.underlying37 h
  have c37 : Try.prog.cellsOf 37 = 8 := by kernel_rfl
  have c29 : Try.prog.cellsOf 29 = 1 := by kernel_rfl
  have c33 : Try.prog.cellsOf 33 = 3 := by kernel_rfl
  have c34 : Try.prog.cellsOf 34 = 1 := by kernel_rfl
  have c35 : Try.prog.cellsOf 35 = 1 := by kernel_rfl
  have c3 : Try.prog.cellsOf 3 = 1 := by kernel_rfl
  have c9 : Try.prog.cellsOf 9 = 1 := by kernel_rfl
  rw [c37] at hlen
  have hul2 : us.length = 6 := hul
  match cs, hlen with
  | [v0, v1, v2, v3, v4, v5, v6, v7], _ =>
    have f0 : DataW.trod enc Try.prog w base spare held l 9 (List.take (Try.prog.cellsOf 9) [v0, v1, v2, v3, v4, v5, v6, v7]) = us[0]? := hk 0 _ rfl
    have f1 : DataW.trod enc Try.prog w base spare held l 3 (List.take (Try.prog.cellsOf 3) [v1, v2, v3, v4, v5, v6, v7]) = us[1]? := hk 1 _ rfl
    have f2 : DataW.trod enc Try.prog w base spare held l 29 (List.take (Try.prog.cellsOf 29) [v2, v3, v4, v5, v6, v7]) = us[2]? := hk 2 _ rfl
    have f3 : DataW.trod enc Try.prog w base spare held l 33 (List.take (Try.prog.cellsOf 33) [v3, v4, v5, v6, v7]) = us[3]? := hk 3 _ rfl
    have f4 : DataW.trod enc Try.prog w base spare held l 34 (List.take (Try.prog.cellsOf 34) [v6, v7]) = us[4]? := hk 4 _ rfl
    have f5 : DataW.trod enc Try.prog w base spare held l 35 (List.take (Try.prog.cellsOf 35) [v7]) = us[5]? := hk 5 _ rfl
    rw [c9] at f0
    rw [c3] at f1
    rw [c29] at f2
    rw [c33] at f3
    rw [c34] at f4
    rw [c35] at f5
    obtain ⟨s, rfl, hs⟩ := tr_strz Try.underlying9 f0 (at_some hul2 (by omega))
    obtain ⟨pr, rfl⟩ := tr_int Try.underlying3 f1 (at_some hul2 (by omega))
    obtain ⟨y2, hy2⟩ := Option.isSome_iff_exists.1 (at_some (l := us) (i := 2) hul2 (by omega))
    obtain ⟨va, vc, vs, rfl, hvs⟩ := open_row ⟨⟨false, ⟨#[]⟩⟩, 0⟩ (fun W b o x => VaAt W b o x ∧ x.t.name.size ≤ maxLen) Try.underlying29 (k := 3) (by kernel_rfl) (by decide) (fun n cs x hx => by
      obtain ⟨v, hv, hz⟩ := open_vaz hx
      exact ⟨v, fun b o hh => ⟨by rw [hv] at hh; exact hh, hz⟩⟩) (f2.trans hy2)
    obtain ⟨y3, hy3⟩ := Option.isSome_iff_exists.1 (at_some (l := us) (i := 3) hul2 (by omega))
    obtain ⟨rt, hrt, hrz⟩ := open_vaz (cs := [v3, v4, v5]) (f3.trans hy3)
    obtain ⟨y4, hy4⟩ := Option.isSome_iff_exists.1 (at_some (l := us) (i := 4) hul2 (by omega))
    obtain ⟨fa, fc, fr, rfl, hfr⟩ := open_intsM (f4.trans hy4)
    obtain ⟨y5, hy5⟩ := Option.isSome_iff_exists.1 (at_some (l := us) (i := 5) hul2 (by omega))
    obtain ⟨ia, ic, is, rfl, his⟩ := open_row ⟨0, 0, 0, 0, 0, 0, 0, 0, 0, 0, ⟨#[]⟩, [], []⟩ InAt Try.underlying35 (k := 13) (by kernel_rfl) (by decide) (fun n cs x hx => by
      obtain ⟨r, ao, mo, ac, mc, hv, hm⟩ := open_in hx
      exact ⟨r, fun b o hh => ⟨ao, ac, mo, mc, by rw [hv] at hh; exact hh, hm⟩⟩) (f5.trans hy5)
    simp at hrt
    obtain ⟨rfl, rfl, rfl⟩ := hrt
    exact ⟨⟨s, pr, vs, rt, fr, is⟩, va, fa, ia, vc, fc, ic, rfl, ⟨(row_and hvs).1, hfr, his⟩, hs, hrz, (row_and hvs).2⟩
theorem open_modz {fuel : Nat} {cs : List Value} {x : DataW H × List MemPlace} (h : DataW.trod enc Try.prog w base spare held fuel 25 cs = some x) :
    ∃ (ss : List StD) (ks : List CoD) (sa ca : Option Addr) (sc cc : Nat), cs = [.slice sa ss.length sc, .slice ca ks.length cc] ∧ RowM 4 StAt w sa ss ∧ RowM 8 CoAt w ca ks ∧ OkM ss ks := by
  obtain ⟨us, l, -, -, hlen, hul, hk⟩ := DataW.trod_struct Try.underlying25 h
  have c25 : Try.prog.cellsOf 25 = 2 := by kernel_rfl
  have c22 : Try.prog.cellsOf 22 = 1 := by kernel_rfl
  have c23 : Try.prog.cellsOf 23 = 1 := by kernel_rfl
  rw [c25] at hlen
  have hul2 : us.length = 2 := hul
  match cs, hlen with
  | [v0, v1], _ =>
    have f0 : DataW.trod enc Try.prog w base spare held l 22 (List.take (Try.prog.cellsOf 22) [v0, v1]) = us[0]? := hk 0 _ rfl
    have f1 : DataW.trod enc Try.prog w base spare held l 23 (List.take (Try.prog.cellsOf 23) [v1]) = us[1]? := hk 1 _ rfl
    rw [c22] at f0
    rw [c23] at f1
    obtain ⟨y0, hy0⟩ := Option.isSome_iff_exists.1 (at_some (l := us) (i := 0) hul2 (by omega))
    obtain ⟨y1, hy1⟩ := Option.isSome_iff_exists.1 (at_some (l := us) (i := 1) hul2 (by omega))
    obtain ⟨sa, sc, ss, rfl, hss⟩ := open_row ⟨⟨#[]⟩, [], 0, 0⟩ (fun W b o x => StAt W b o x ∧ OkSt x) Try.underlying22 (k := 4) (by kernel_rfl) (by decide) (fun n cs x hx => by
      obtain ⟨s, fa, fc, hv, hm, hz⟩ := open_stz hx
      exact ⟨s, fun b o hh => ⟨⟨fa, fc, by rw [hv] at hh; exact hh, hm⟩, hz⟩⟩) (f0.trans hy0)
    obtain ⟨ca, cc, ks, rfl, hks⟩ := open_row ⟨⟨#[]⟩, 0, [], ⟨⟨false, ⟨#[]⟩⟩, 0⟩, [], []⟩ (fun W b o x => CoAt W b o x ∧ OkCo x) Try.underlying23 (k := 8) (by kernel_rfl) (by decide) (fun n cs x hx => by
      obtain ⟨c, va, fa, ia, vc, fc, ic, hv, hm, hz⟩ := open_coz hx
      exact ⟨c, fun b o hh => ⟨⟨va, vc, fa, fc, ia, ic, by rw [hv] at hh; exact hh, hm⟩, hz⟩⟩) (f1.trans hy1)
    exact ⟨ss, ks, sa, ca, sc, cc, rfl, (row_and hss).1, (row_and hks).1, (row_and hss).2, (row_and hks).2⟩
end
end Go.Proofs.Ytfhdiahjfnphkaa
