/- The chapter's example of layer 5 in memory. No conditions. -/
import Derived.Test.YtfhdiahjfnphkaaProg
import Derived.WalkKit
import Derived.BigQuiet
import Derived.Deep.QuietTactic
import Derived.Deep.LoopGhost
import Derived.RegionTactic
import Derived.WalkSpells
import Derived.Outline
import Derived.Lib.Strings
import Derived.Laws.NewBlocks
import Derived.Laws.ResultCell
import Derived.Maps.Own
import Derived.Maps.OwnOps
import Derived.Maps.OwnSet
namespace Go.Proofs.Ytfhdiahjfnphkaa
open Go.RowKit Go.Maps
set_option linter.unusedVariables false
set_option linter.unusedSimpArgs false
theorem hid {p : Prop} (h : p) : Hid p := h
abbrev i0 : Value := .int .i64 0
abbrev s0 : Value := .string ⟨#[]⟩
abbrev n0 : Value := .slice none 0 0
abbrev varObj : Array Value := #[.bool false, s0, i0]
abbrev insObj : Array Value := #[.int .i64 1, i0, i0, i0, i0, .int .i64 7, s0, n0, n0, i0, i0, i0, i0, .int .i64 18, i0, i0, i0, i0, i0, s0, n0, n0, i0, i0, i0, i0]
abbrev mainS : ByteArray := ⟨#[109, 97, 105, 110]⟩
abbrev codeObj (V I : Nat) : Array Value := #[.string mainS, i0, .slice (some ⟨V, 0, none⟩) 1 1, .bool false, s0, i0, n0, .slice (some ⟨I, 0, none⟩) 2 2]
abbrev smallV (F : Nat) : Value := .agg #[n0, .slice (some ⟨F, 0, none⟩) 1 1]
structure Small (w : World) (V I F : Nat) : Prop where
  v : w.heap[V]? = some (.cells varObj 33 (0, 0))
  i : w.heap[I]? = some (.cells insObj 49 (0, 0))
  f : w.heap[F]? = some (.cells (codeObj V I) 37 (0, 0))
theorem old_block {n : Nat} {w W : World} {o : Obj} {k : Nat} (h : Below n w W) (hk : k < n) (hb : w.heap[k]? = some o) : W.heap[k]? = some o := (h.block k hk).trans hb
theorem Small.below {w W : World} {V I F : Nat} (h : Small w V I F) (hb : Below w.heap.size w W) : Small W V I F :=
  ⟨old_block hb (Array.getElem?_eq_some_iff.1 h.v).1 h.v, old_block hb (Array.getElem?_eq_some_iff.1 h.i).1 h.i, old_block hb (Array.getElem?_eq_some_iff.1 h.f).1 h.f⟩
theorem small_i (w : World) : Calls Try.prog 19 #[] w fun e w' => ∃ V I F, e = .returned (smallV F) ∧ Hid (Small w' V I F) ∧ Hid (Below w.heap.size w w') := by
  go_enter Try.func19, Try.ntmps19
  go_wp2
  refine bodyPost_ret (v := smallV (w.heap.size + 1 + 1 + 1)) (by simp [results, Try.results19, go_sem]) rfl ⟨w.heap.size + 1, w.heap.size + 1 + 1, w.heap.size + 1 + 1 + 1, rfl, ?_, ?_⟩
  · obtain ⟨o1, ho1⟩ : ∃ o1 : Obj, o1 = .cells #[n0, .slice (some ⟨w.heap.size + 1 + 1 + 1, 0, none⟩) 1 1] 25 := ⟨_, rfl⟩
    have e1 := heap_alloc_new (w.alloc o1) (.cells varObj 33)
    have e2 := heap_alloc_new ((w.alloc o1).alloc (.cells varObj 33)) (.cells insObj 49)
    have e3 := heap_alloc_new (((w.alloc o1).alloc (.cells varObj 33)).alloc (.cells insObj 49)) (.cells (codeObj (w.heap.size + 1) (w.heap.size + 1 + 1)) 37)
    simp only [World.size_alloc] at e1 e2 e3
    rw [← ho1]
    exact ⟨(Below.heap_alloc _ _ _ (by simp only [World.size_alloc]; omega)).trans ((Below.heap_alloc _ _ _ (by simp only [World.size_alloc]; omega)).trans e1), (Below.heap_alloc _ _ _ (by simp only [World.size_alloc]; omega)).trans e2, e3⟩
  · exact ((((Below.refl _ w).alloc (Nat.le_refl _) _).alloc (by simp only [World.size_alloc]; omega) _).alloc (by simp only [World.size_alloc]; omega) _).alloc (by simp only [World.size_alloc]; omega) _
theorem cells_at {W : World} {k t : Nat} {vs : Array Value} (h : W.heap[k]? = some (.cells vs t (0, 0))) (i : Nat) : W.cell? ⟨k, i, none⟩ = vs[i]? := by
  simp [World.cell?, h]
theorem cells_at1 {W : World} {k t : Nat} {vs : Array Value} (h : W.heap[k]? = some (.cells vs t (0, 0))) (o : Obj) (i : Nat) : (W.alloc o).cell? ⟨k, i, none⟩ = vs[i]? :=
  cells_at ((Below.heap_alloc W o k (Array.getElem?_eq_some_iff.1 h).1).trans h) i
theorem cells_at2 {W : World} {k t : Nat} {vs : Array Value} (h : W.heap[k]? = some (.cells vs t (0, 0))) (o o2 : Obj) (i : Nat) : ((W.alloc o).alloc o2).cell? ⟨k, i, none⟩ = vs[i]? :=
  cells_at1 ((Below.heap_alloc W o k (Array.getElem?_eq_some_iff.1 h).1).trans h) o2 i
theorem map_below {W W' : World} {k b n : Nat} {R : Value → Option (DataW Unit × List MemPlace)} {D : DataW Unit} {o : Obj} (h : W.ownsMap Try.prog k R b n D) (hb : Below (W.alloc o).heap.size (W.alloc o) W') : W'.ownsMap Try.prog k R b n D := by
  obtain ⟨es, clock, h1, h2⟩ := h
  have hlt : b < W.heap.size := (Array.getElem?_eq_some_iff.1 h1).1
  exact ⟨es, clock, (hb.block b (by rw [World.size_alloc]; omega)).trans ((Below.heap_alloc W o b hlt).trans h1), h2⟩
/-- The name of a function, asked by the closure. -/
theorem isMain_i (c1 c2 c3 c4 c5 c6 c7 : Value) (s : ByteArray) (b : Nat) (r : Bool) (w : World) (hb : w.heap[b]? = some (.cells #[.string mainS] 9 (0, 0))) (hr : (s.toList == [109, 97, 105, 110]) = r) :
    Calls Try.prog 31 #[.agg #[.string s, c1, c2, c3, c4, c5, c6, c7], .pointer (some ⟨b, 0, none⟩)] w fun e w' => e = .returned (.bool r) ∧ Hid (Below w.heap.size w w') := by
  have h0 := fun o => cells_at1 hb o 0
  subst hr
  go_enter Try.func31, Try.ntmps31
  go_wp2
  go_ret
  exact ⟨rfl, (Below.refl _ _).alloc (Nat.le_refl _) _⟩
theorem rep_struct0 (w : World) : Calls Try.prog 45 #[n0, .func (.func 46) #[] #[]] w fun e w' => e = .returned (.bool false) ∧ Hid (Below w.heap.size w w') := by
  have hmm := @run_makeMap Try.prog
  have hown := World.ownsMap_made w Try.prog 9 (plainElem (H := Unit) Try.prog 3)
  have HB := hid ((Below.refl w.heap.size w).alloc (Nat.le_refl _) (.map #[] 0))
  go_enter Try.func45, Try.ntmps45
  go_wp2
  obtain ⟨W1, hW1⟩ : ∃ W1, w.alloc (.map #[] 0) = W1 := ⟨_, rfl⟩
  rw [hW1] at hown HB ⊢
  clear hW1
  go_loopg [11] 0 (fun gk v11 wr => gk = 0 ∧ v11 = .int .i64 0 ∧ wr = W1)
  case atStart => exact ⟨rfl, rfl, rfl⟩
  case round =>
    obtain ⟨rfl, rfl, rfl⟩ := hrel
    go_wp2_with (at_len; refine wpList_len_own _ rfl _ 68 rfl 9 3 Try.underlying68 (plainElem (H := Unit) Try.prog 3) _ 0 _ rfl hown ?_)
    go_ret
    exact ⟨rfl, HB.out⟩
theorem name34_i (c1 c2 c3 c4 c5 c6 c7 : Value) (s : ByteArray) (w : World) :
    Calls Try.prog 48 #[.agg #[.string s, c1, c2, c3, c4, c5, c6, c7]] w fun e w' => e = .returned (.string s) ∧ Hid (Below w.heap.size w w') := by
  go_enter Try.func48, Try.ntmps48
  go_wp2
  go_ret
  exact ⟨rfl, (Below.refl _ _).alloc (Nat.le_refl _) _⟩
theorem rep_code0 (w : World) : Calls Try.prog 47 #[n0, .func (.func 48) #[] #[]] w fun e w' => e = .returned (.bool false) ∧ Hid (Below w.heap.size w w') := by
  have hmm := @run_makeMap Try.prog
  have hown := World.ownsMap_made w Try.prog 9 (plainElem (H := Unit) Try.prog 3)
  have HB := hid ((Below.refl w.heap.size w).alloc (Nat.le_refl _) (.map #[] 0))
  go_enter Try.func47, Try.ntmps47
  go_wp2
  obtain ⟨W1, hW1⟩ : ∃ W1, w.alloc (.map #[] 0) = W1 := ⟨_, rfl⟩
  rw [hW1] at hown HB ⊢
  clear hW1
  go_loopg [11] 0 (fun gk v11 wr => gk = 0 ∧ v11 = .int .i64 0 ∧ wr = W1)
  case atStart => exact ⟨rfl, rfl, rfl⟩
  case round =>
    obtain ⟨rfl, rfl, rfl⟩ := hrel
    go_wp2_with (at_len; refine wpList_len_own _ rfl _ 68 rfl 9 3 Try.underlying68 (plainElem (H := Unit) Try.prog 3) _ 0 _ rfl hown ?_)
    go_ret
    exact ⟨rfl, HB.out⟩
theorem step_grown {w wr w2 w3 : World} {B : Nat} {o : Obj} (h : Below w.heap.size w wr) (h2 : Below (wr.alloc o).heap.size (wr.alloc o) w2) (hg : w2.grownBy w3 (some B)) (hB : w.heap.size ≤ B) : Below w.heap.size w w3 := by
  have h3 := h.alloc h.size o
  have h4 := h3.trans (h2.mono h3.size)
  exact h4.grown hg h4.size (by rintro k e; cases e; exact hB)
def mapAt : Nat → DataW Unit
  | 0 => .map []
  | _ + 1 => DataW.put (.map []) (.string [109, 97, 105, 110]) (.lit (.int .i64 0))
theorem size_at1 : Maps.size (mapAt 1) = 1 := by rfl
set_option maxRecDepth 100000 in
set_option maxHeartbeats 4000000 in
theorem rep_code1 (w : World) (V I F : Nat) (hS : Small w V I F) : Calls Try.prog 47 #[.slice (some ⟨F, 0, none⟩) 1 1, .func (.func 48) #[] #[]] w fun e w' => e = .returned (.bool false) ∧ Hid (Below w.heap.size w w') := by
  have hmm := @run_makeMap Try.prog
  have hown := hid (World.ownsMap_made w Try.prog 9 (plainElem (H := Unit) Try.prog 3))
  have HB := hid ((Below.refl w.heap.size w).alloc (Nat.le_refl _) (.map #[] 0))
  have HS := hid hS
  clear hS
  obtain ⟨B, hB⟩ : ∃ B, Hid (B = w.heap.size) := ⟨_, hid rfl⟩
  have hBW := hid (show B < (w.alloc (.map #[] 0)).heap.size from by rw [hB.out]; simp)
  go_enter Try.func47, Try.ntmps47
  go_wp2
  rw [← hB.out] at hown ⊢
  obtain ⟨W1, hW1⟩ : ∃ W1, w.alloc (.map #[] 0) = W1 := ⟨_, rfl⟩
  rw [hW1] at hown HB hBW ⊢
  clear hW1
  go_loopg [11] 1 (fun gk v11 wr => ∃ k : Nat, k ≤ 1 ∧ gk = 1 - k ∧ v11 = .int .i64 k ∧ Hid (Below w.heap.size w wr) ∧ Hid (wr.ownsMap Try.prog 9 (plainElem (H := Unit) Try.prog 3) B k (mapAt k)))
  case atStart => exact ⟨0, by omega, rfl, rfl, HB, hown⟩
  case round =>
    obtain ⟨k, hk, rfl, rfl, HBL, HO⟩ := hrel
    by_cases hlt : k < 1
    · obtain rfl : k = 0 := by omega
      clear hlt hk
      have hc := cells_at (old_block HBL.out (Array.getElem?_eq_some_iff.1 HS.out.f).1 HS.out.f)
      go_wp2_with (first
        | (go_at_call 48; refine (name34_i _ _ _ _ _ _ _ _ _).mono ?_; rintro e w2 ⟨rfl, HB2⟩
           have HO2 := hid (map_below HO.out HB2.out))
        | (at_mapUpdate; go_must (refine wpList_mapUpdate_own _ rfl _ _ _ 68 rfl 9 3 (string_keyed Try.underlying9) Try.underlying68 _ B 0 _ rfl HO2.out (by unfold maxLen; omega) _ _ _ rfl rfl (WideMaps.keyOf_string_mk Try.underlying9 (by decide)) _ [] (plainElem_int Try.underlying3 (by decide)) ?_); intro w3 hown3 hgrow3))
      all_goals go_roundg (1 - (0 + 1))
      case measure => omega
      case rel => exact ⟨1, by omega, rfl, rfl, hid (step_grown HBL.out HB2.out hgrow3 (Nat.le_of_eq hB.out.symm)), hid hown3⟩
    · obtain rfl : k = 1 := by omega
      clear hlt hk
      have HO1 := HO.out
      go_wp2_with (at_len; refine wpList_len_own _ rfl _ 68 rfl 9 3 Try.underlying68 (plainElem (H := Unit) Try.prog 3) _ 1 (mapAt 1) rfl HO1 ?_)
      go_ret
      exact ⟨rfl, HBL.out⟩
end Go.Proofs.Ytfhdiahjfnphkaa
