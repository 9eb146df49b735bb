/- A list of the call's own, turned round. Condition: fewer than a million. -/
import Derived.Test.YtbmjhkimeeahhaaFlH
import Derived.Laws.OwnMore
import Derived.RegionTactic
import Derived.BigRegion
namespace Go.Proofs.Ytbmjhkimeeahhaa
open Go.RowKit Go.Maps
set_option linter.unusedVariables false
set_option linter.unusedSimpArgs false
/-- k swaps are done. -/
def RevAt (L : List Nat) (n k : Nat) (M : List Nat) : Prop := L.length = n ∧ M.length = n ∧ ∀ i, i < n → M[i]? = if i < k ∨ n - k ≤ i then L[n - 1 - i]? else L[i]?
theorem rev_start (L : List Nat) (n : Nat) (h : L.length = n) : RevAt L n 0 L := ⟨h, h, fun i hi => by rw [if_neg (by omega)]⟩
theorem rev_end {L M : List Nat} {n k : Nat} (h : RevAt L n k M) (hk : n ≤ 2 * k + 1) : M = L.reverse := by
  obtain ⟨h1, h2, h3⟩ := h
  refine List.ext_getElem? fun i => ?_
  by_cases hi : i < n
  · rw [h3 i hi, List.getElem?_reverse (by omega), h1]
    by_cases hc : i < k ∨ n - k ≤ i
    · rw [if_pos hc]
    · rw [if_neg hc]
      congr 1
      omega
  · rw [List.getElem?_eq_none (by omega), List.getElem?_eq_none (by simp; omega)]
theorem rev_step {L M : List Nat} {n k j a b : Nat} (h : RevAt L n k M) (hj : j + 1 + k = n) (hk : k < j) (ha : M[k]? = some a) (hb : M[j]? = some b) : RevAt L n (k + 1) ((M.set k b).set j a) := by
  obtain ⟨h1, h2, h3⟩ := h
  refine ⟨h1, by simp [h2], fun i hi => ?_⟩
  have hk' := h3 k (by omega)
  have hj' := h3 j (by omega)
  rw [if_neg (by omega), ha] at hk'
  rw [if_neg (by omega), hb] at hj'
  by_cases e1 : i = j
  · subst e1
    rw [List.getElem?_set_self (by simp; omega), if_pos (by omega), hk']
    congr 1
    omega
  · rw [List.getElem?_set_ne (by omega)]
    by_cases e2 : i = k
    · subst e2
      rw [List.getElem?_set_self (by omega), if_pos (by omega), hj']
      congr 1
      omega
    · rw [List.getElem?_set_ne (by omega), h3 i hi]
      by_cases hc : i < k ∨ n - k ≤ i
      · rw [if_pos hc, if_pos (by omega)]
      · rw [if_neg hc, if_neg (by omega)]
theorem nat_get {L : List Nat} {i k : Nat} (h : L[i]? = some k) : (natV L)[i]? = some (.int .i64 (k : Int)) := by simp [natV, h]
def RevPost (g base n cap : Nat) (L : List Nat) (w : World) (e : Ending) (w' : World) : Prop := (∃ v, e = .returned v) ∧ Hid (w'.ownsRow base 3 1 (.slice (some ⟨g, 0, none⟩) n cap) n (natV L.reverse)) ∧ Hid (w.grownBy w' (some g))
theorem rev_world {g base n cap k j a b : Nat} {M : List Nat} {w wr : World} (h : wr.ownsRow base 3 1 (.slice (some ⟨g, 0, none⟩) n cap) n (natV M)) (hg : w.grownBy wr (some g)) :
    (((wr.setCell ⟨g, k, none⟩ (.int .i64 (b : Int))).setCell ⟨g, j, none⟩ (.int .i64 (a : Int))).drew).ownsRow base 3 1 (.slice (some ⟨g, 0, none⟩) n cap) n (natV ((M.set k b).set j a)) ∧
      w.grownBy (((wr.setCell ⟨g, k, none⟩ (.int .i64 (b : Int))).setCell ⟨g, j, none⟩ (.int .i64 (a : Int))).drew) (some g) := by
  have h1 := h.stored k (.int .i64 (b : Int))
  have h2 := h1.1.stored j (.int .i64 (a : Int))
  have h3 : ((natV M).set k (.int .i64 (b : Int))).set j (.int .i64 (a : Int)) = natV ((M.set k b).set j a) := by simp [natV, List.map_set]
  rw [h3] at h2
  refine ⟨h2.1, ?_⟩
  have hs : ∀ {A B C : World}, A.grownBy B (some g) → B.grownBy C (some g) → A.grownBy C (some g) := fun h k => ⟨k.os.trans h.os, k.tape.trans h.tape, k.output.trans h.output, Nat.le_trans h.size k.size, fun i hi hn => (k.block i (Nat.lt_of_lt_of_le hi h.size) hn).trans (h.block i hi hn)⟩
  have h4 := hs (hs hg h1.2) h2.2
  exact ⟨h4.os, h4.tape, h4.output, h4.size, h4.block⟩
set_option maxRecDepth 100000 in
set_option maxHeartbeats 8000000 in
theorem rev_f (g base n cap : Nat) (L : List Nat) (w : World) (h : w.ownsRow base 3 1 (.slice (some ⟨g, 0, none⟩) n cap) n (natV L)) (hn : n < 1000000) :
    Calls Try.prog 33 #[.slice (some ⟨g, 0, none⟩) n cap] w (RevPost g base n cap L w) := by
  have hl : L.length = n := by have := h.1; simp [natV] at this; omega
  have HR0 := hid h
  have HV0 := hid (rev_start L n hl)
  have HG0 : Hid (w.grownBy w (some g)) := hid ⟨rfl, rfl, rfl, Nat.le_refl _, fun _ _ _ => rfl⟩
  clear h hl
  go_enter Try.func33, Try.ntmps33
  go_wp2
  go_loopg [2, 3] n (fun gk v2 v3 wr => ∃ (k : Nat) (M : List Nat), k ≤ n ∧ gk = n - k ∧ v2 = .int .i64 k ∧ v3 = .int .i64 ((n : Int) - 1 - k) ∧ Hid (wr.ownsRow base 3 1 (.slice (some ⟨g, 0, none⟩) n cap) n (natV M)) ∧ Hid (RevAt L n k M) ∧ Hid (w.grownBy wr (some g)))
  case atStart => exact ⟨0, L, by omega, by omega, rfl, by simp, HR0, HV0, HG0⟩
  case round =>
    clear HR0 HV0 HG0
    obtain ⟨k, M, hk, rfl, rfl, rfl, HR, HV, HG⟩ := hrel
    by_cases hlt : 2 * k + 1 < n
    · obtain ⟨j, hj⟩ : ∃ j : Nat, (n : Int) - 1 - k = j := ⟨n - 1 - k, by omega⟩
      have hkj : k < j := by omega
      have hkj' : (k : Int) < (j : Int) := by omega
      have hjn : j + 1 + k = n := by omega
      have k0 : (0 : Int) ≤ (k : Int) := by omega
      have j0 : (0 : Int) ≤ (j : Int) := by omega
      have k1 : (k : Int) < (n : Int) := by omega
      have j1 : (j : Int) < (n : Int) := by omega
      obtain ⟨a, ha⟩ := get_some HV.out.2.1 (show k < n by omega)
      obtain ⟨b, hb⟩ := get_some HV.out.2.1 (show j < n by omega)
      have hca : wr.cell? ⟨g, k, none⟩ = some (.int .i64 a) := (HR.out.cellAt k (by omega)).trans (nat_get ha)
      have hcb : wr.cell? ⟨g, j, none⟩ = some (.int .i64 b) := (HR.out.cellAt j (by omega)).trans (nat_get hb)
      have hfa := HR.out.frozenAt k
      have hfb := HR.out.frozenAt j
      have HA := hid ha
      have HB := hid hb
      rw [hj]
      have HJN := hid hjn
      clear ha hb hj
      go_wp2
      go_region
      have HW := hid (rev_world (k := k) (j := j) (a := a) (b := b) HR.out HG.out)
      clear hca hcb hfa hfb
      go_wp2
      go_roundg (n - (k + 1))
      case measure => omega
      case rel => exact ⟨k + 1, (M.set k b).set j a, by omega, rfl, by simp, by have := HJN.out; congr 1; omega, hid HW.out.1, hid (rev_step HV.out HJN.out hkj HA.out HB.out), hid HW.out.2⟩
    · have hlt' : ¬ (k : Int) < (n : Int) - 1 - k := by omega
      have hM := rev_end HV.out (by omega)
      have HM := hid hM
      clear hM
      go_wp2
      go_end0
      exact ⟨⟨_, rfl⟩, by rw [← HM.out]; exact HR, HG⟩
end Go.Proofs.Ytbmjhkimeeahhaa
