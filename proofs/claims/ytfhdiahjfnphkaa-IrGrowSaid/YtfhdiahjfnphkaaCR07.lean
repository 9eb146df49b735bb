/- What may be there once alone, in a module: by the reference. No conditions. -/
import Derived.Test.YtfhdiahjfnphkaaCR06
import Derived.Deep.RegionHeld3
namespace Go.Proofs.Ytfhdiahjfnphkaa
open Go.RowKit Go.Maps
set_option linter.unusedVariables false
set_option linter.unusedSimpArgs false
theorem dup_of {K : List Nm} : ∀ {i j : Nat} {x : Nm}, i < j → K[i]? = some x → K[j]? = some x → dup K = true := by
  induction K with
  | nil => intro i j x _ h _; simp at h
  | cons y K ih =>
    intro i j x hij hi hj
    cases j with
    | zero => omega
    | succ j =>
      rw [dup, Bool.or_eq_true]
      cases i with
      | zero =>
        left
        simp at hi hj
        subst hi
        exact List.contains_iff_mem.2 (List.mem_of_getElem? hj)
      | succ i =>
        right
        exact ih (i := i) (j := j) (x := x) (by omega) (by simpa using hi) (by simpa using hj)
theorem dup_ex {K : List Nm} : dup K = true → ∃ (i j : Nat) (x : Nm), i < j ∧ K[i]? = some x ∧ K[j]? = some x := by
  induction K with
  | nil => intro h; simp [dup] at h
  | cons y K ih =>
    intro h
    rw [dup, Bool.or_eq_true] at h
    rcases h with h | h
    · obtain ⟨j, hj⟩ := List.getElem?_of_mem (List.contains_iff_mem.1 h)
      exact ⟨0, j + 1, y, by omega, rfl, by simpa using hj⟩
    · obtain ⟨i, j, x, h1, h2, h3⟩ := ih h
      exact ⟨i + 1, j + 1, x, by omega, by simpa using h2, by simpa using h3⟩
theorem idx_le {α : Type} {p : α → Bool} : ∀ {l : List α} {i : Nat} {x : α} (k : Int), l[i]? = some x → p x = true → k ≤ idxL p l k ∧ idxL p l k ≤ k + i
  | [], i, x, k, h, _ => by simp at h
  | a :: l, i, x, k, h, hp => by
    rw [idxL]
    split
    · omega
    · rename_i hn
      cases i with
      | zero => simp at h; subst h; exact absurd hp hn
      | succ i =>
        simp at h
        have := idx_le (k + 1) h hp
        omega
theorem key_of {α : Type} {f : α → ByteArray} {l : List α} {i : Nat} {x : α} (h : l[i]? = some x) : (keysOf (l.map f))[i]? = some (f x).toList := by
  rw [List.getElem?_map, List.getElem?_map, h, ByteArray.toList_eq]; rfl
theorem of_key {α : Type} {f : α → ByteArray} {l : List α} {i : Nat} {t : Nm} (h : (keysOf (l.map f))[i]? = some t) : ∃ x, l[i]? = some x ∧ (f x).toList = t := by
  rw [List.getElem?_map, List.getElem?_map] at h
  cases hx : l[i]? with
  | none => rw [hx] at h; simp at h
  | some x => rw [hx] at h; simp at h; exact ⟨x, rfl, by rw [ByteArray.toList_eq]; exact h⟩
theorem dup_idx {α : Type} {f : α → ByteArray} {l : List α} {i : Nat} {x : α} (h : l[i]? = some x) (hne : idxL (fun c => sEq (f c) (f x)) l 0 ≠ i) : dup (keysOf (l.map f)) = true := by
  by_cases hc : ∀ j y, j < i → l[j]? = some y → sEq (f y) (f x) = false
  · have := idx_at (p := fun c => sEq (f c) (f x)) 0 h (by simp [sEq]) hc
    omega
  · have : ∃ j y, j < i ∧ l[j]? = some y ∧ sEq (f y) (f x) = true := by
      apply Classical.byContradiction
      intro hn
      apply hc
      intro j y hj hy
      cases he : sEq (f y) (f x)
      · rfl
      · exact absurd ⟨j, y, hj, hy, he⟩ hn
    obtain ⟨j, y, hj, hy, he⟩ := this
    have e : (f y).toList = (f x).toList := by simpa [sEq] using he
    exact dup_of hj (by rw [key_of hy, e]) (key_of h)
theorem nodup_idx {α : Type} {f : α → ByteArray} {l : List α} (h : ∀ i x, i < l.length → l[i]? = some x → idxL (fun c => sEq (f c) (f x)) l 0 = i) : dup (keysOf (l.map f)) = false := by
  cases hd : dup (keysOf (l.map f))
  · rfl
  · exfalso
    obtain ⟨i, j, t, hij, hi, hj⟩ := dup_ex hd
    obtain ⟨x, hx, ex⟩ := of_key hi
    obtain ⟨y, hy, ey⟩ := of_key hj
    have h1 := h j y (List.getElem?_eq_some_iff.1 hy).1 hy
    have h2 := (idx_le (p := fun c => sEq (f c) (f y)) 0 hx (by simp [sEq, ex, ey])).2
    omega
theorem nodup_pairs {α : Type} {f : α → ByteArray} {l : List α} (h : ∀ (j k : Nat) (x y : α), j < k → l[j]? = some x → l[k]? = some y → ((f x).toList == (f y).toList) = false) : dup (keysOf (l.map f)) = false := by
  cases hd : dup (keysOf (l.map f))
  · rfl
  · exfalso
    obtain ⟨i, j, t, hij, hi, hj⟩ := dup_ex hd
    obtain ⟨x, hx, ex⟩ := of_key hi
    obtain ⟨y, hy, ey⟩ := of_key hj
    have := h i j x y hij hx hy
    rw [ex, ey] at this
    simp at this
theorem rfst_q {xs : List StD} {n : Nat} (q1 : xs.length = n) (ma : Option Addr) (mn mc : Nat) (A : Option Addr) (c : Nat) (s : ByteArray) (w : World) (h1 : RowM 4 StAt w A xs) :
    Calls Try.prog 15 #[.agg #[.slice A n c, .slice ma mn mc], .string s] w fun e w' => e = .returned (.int .i64 (idxL (stN s) xs 0)) ∧ Hid (Below w.heap.size w w') := by
  subst q1; exact rfunc_st _ xs A c s w h1 ⟨_, _, _, rfl⟩
theorem rfco_q {xs : List CoD} {n : Nat} (q1 : xs.length = n) (ma : Option Addr) (mn mc : Nat) (A : Option Addr) (c : Nat) (s : ByteArray) (w : World) (h1 : RowM 8 CoAt w A xs) :
    Calls Try.prog 13 #[.agg #[.slice ma mn mc, .slice A n c], .string s] w fun e w' => e = .returned (.int .i64 (idxL (coN s) xs 0)) ∧ Hid (Below w.heap.size w w') := by
  subst q1; exact rfunc_co _ xs A c s w h1 ⟨_, _, _, rfl⟩
set_option maxRecDepth 100000 in
set_option maxHeartbeats 8000000 in
theorem rtwice_i (ss : List StD) (cs : List CoD) (sa ca : Option Addr) (sc cc : Nat) (r : Bool) (w : World) (h1 : RowM 4 StAt w sa ss) (h2 : RowM 8 CoAt w ca cs) (hr : twB ss cs = r) :
    Calls Try.prog 37 #[.agg #[.slice sa ss.length sc, .slice ca cs.length cc]] w fun e w' => e = .returned (.bool r) ∧ Hid (Below w.heap.size w w') := by
  have hl := h1.1
  have hl2 := h2.1
  obtain ⟨n, hn⟩ : ∃ n : Nat, ss.length = n := ⟨_, rfl⟩
  obtain ⟨m, hm⟩ : ∃ n : Nat, cs.length = n := ⟨_, rfl⟩
  rw [hn, hm]
  rw [hn] at hl
  rw [hm] at hl2
  have H1 := hid (fun W (hb : Below w.heap.size w W) => h1.later st_stays hb)
  have H2 := hid (fun W (hb : Below w.heap.size w W) => h2.later co_stays hb)
  have HN := hid hn
  have HM := hid hm
  have HR := hid hr
  have HX := hid (heap_alloc_new w (.cells #[.slice sa n sc, .slice ca m cc] 25))
  have HB := hid (below1 w (.cells #[.slice sa n sc, .slice ca m cc] 25))
  clear h1 h2 hn hm hr
  go_enter Try.func37, Try.ntmps37
  have hx := cells_at HX.out
  go_wp2
  obtain ⟨W1, hW1⟩ : ∃ W1, w.alloc (.cells #[.slice sa n sc, .slice ca m cc] 25) = W1 := ⟨_, rfl⟩
  rw [hW1] at HX HB ⊢
  clear hW1 hx
  go_loopg [3] n (fun gk v3 wr => ∃ k : Nat, k ≤ n ∧ gk = n - k ∧ v3 = .int .i64 k ∧ Hid (Below w.heap.size w wr) ∧ Hid (wr.heap[w.heap.size]? = some (.cells #[.slice sa n sc, .slice ca m cc] 25 (0, 0))) ∧ Hid (∀ i x, i < k → ss[i]? = some x → fdN x = false ∧ idxL (stN x.nm) ss 0 = i))
  case atStart => exact ⟨0, by omega, by omega, rfl, HB, HX, hid (fun i x hi => absurd hi (by omega))⟩
  case round =>
    clear HB HX
    obtain ⟨k, hk, rfl, rfl, HB, HX, HA⟩ := hrel
    have hx := cells_at HX.out
    by_cases hlt : k < n
    · have hlt' : (k : Int) < (n : Int) := by omega
      obtain ⟨x, hx1⟩ := get_some HN.out hlt
      have HDc := hid HB.out.drew
      obtain ⟨b, o, rfl, hb1, fa, fc, hc1, hm1⟩ := (H1.out _ HDc.out).2 k x hx1
      have HXc : Hid (wr.drew.heap[w.heap.size]? = some (.cells #[.slice (some ⟨b, o, none⟩) n sc, .slice ca m cc] 25 (0, 0))) := hid HX.out
      have HKc : Hid (wr.drew.cell? ⟨b, o + k * 4, none⟩ = some (.string x.nm)) := hid (hc1 0 _ rfl)
      have HXX := hid hx1
      have hk0 : (0 : Int) ≤ (k : Int) := by omega
      have hk1 : (k : Int) ≤ (n : Int) := by omega
      obtain ⟨q, hq⟩ : ∃ q, idxL (stN x.nm) ss 0 = q := ⟨_, rfl⟩
      have HQ := hid hq
      clear hx1 hc1 hm1 HB HX hq
      cases e : (q != (k : Int))
      case true =>
        have hf : r = true := HR.out.symm.trans (by rw [twB, dup_idx (f := StD.nm) HXX.out (show idxL (stN x.nm) ss 0 ≠ k by rw [HQ.out]; simpa using e)]; simp)
        subst hf
        go_wp2
        go_region_held3 (fun W => Hid (Below w.heap.size w W) ∧ (∀ i, W.cell? ⟨w.heap.size, i, none⟩ = (#[.slice (some ⟨b, o, none⟩) n sc, .slice ca m cc] : Array Value)[i]?) ∧ W.cell? ⟨b, o + k * 4, none⟩ = some (.string x.nm))
          (first | exact ⟨HDc, cells_at HXc.out, HKc.out⟩)
          (first
          | (go_at_call 15; have tok := HDc; go_must (refine (rfst_q HN.out ca m cc (some ⟨b, o, none⟩) sc x.nm _ (H1.out _ HDc.out)).mono ?_); rw [HQ.out]; rintro e v ⟨rfl, hv⟩; have HDc := hid (after tok.out hv.out tok.out.size); have HXc := hid (old_block hv.out (Array.getElem?_eq_some_iff.1 HXc.out).1 HXc.out); have HKc := hid ((hv.out.cell (p := ⟨b, o + k * 4, none⟩) hb1).trans HKc.out); clear tok hv))
        go_wp2
        go_ret
        exact ⟨rfl, HDc⟩
      case false =>
        have HE := hid (show q = (k : Int) by simpa using e)
        go_wp2
        go_region_held3 (fun W => Hid (Below w.heap.size w W) ∧ (∀ i, W.cell? ⟨w.heap.size, i, none⟩ = (#[.slice (some ⟨b, o, none⟩) n sc, .slice ca m cc] : Array Value)[i]?) ∧ W.cell? ⟨b, o + k * 4, none⟩ = some (.string x.nm))
          (first | exact ⟨HDc, cells_at HXc.out, HKc.out⟩)
          (first
          | (go_at_call 15; have tok := HDc; go_must (refine (rfst_q HN.out ca m cc (some ⟨b, o, none⟩) sc x.nm _ (H1.out _ HDc.out)).mono ?_); rw [HQ.out]; rintro e v ⟨rfl, hv⟩; have HDc := hid (after tok.out hv.out tok.out.size); have HXc := hid (old_block hv.out (Array.getElem?_eq_some_iff.1 HXc.out).1 HXc.out); have HKc := hid ((hv.out.cell (p := ⟨b, o + k * 4, none⟩) hb1).trans HKc.out); clear tok hv))
        have hx := cells_at HXc.out
        obtain ⟨b', o', e', hb', fa, fc, hc1, hm1⟩ := (H1.out _ HDc.out).2 k x HXX.out
        cases e'
        have d1 : v.cell? ⟨b, o + k * 4 + 1, none⟩ = some (.slice fa x.fs.length fc) := hc1 1 _ rfl
        obtain ⟨q2, hq2⟩ : ∃ q2, x.fs.length = q2 := ⟨_, rfl⟩
        have hq3 : q2 ≤ 9223372036854775807 := by rw [← hq2]; exact hm1.1
        rw [hq2] at d1
        have HQ2 := hid hq2
        have HF := hid hm1
        clear hq2 hc1 hm1
        go_wp2
        go_loopg [5] q2 (fun gk v5 wr2 => ∃ i : Nat, i ≤ q2 ∧ gk = q2 - i ∧ v5 = .int .i64 i ∧ Hid (Below w.heap.size w wr2) ∧ Hid (wr2.heap[w.heap.size]? = some (.cells #[.slice (some ⟨b, o, none⟩) n sc, .slice ca m cc] 25 (0, 0))) ∧ Hid (RowM 5 FdAt wr2 fa x.fs) ∧ Hid (∀ j i2 u v, j < i2 → i2 < i → x.fs[j]? = some u → x.fs[i2]? = some v → (u.nm.toList == v.nm.toList) = false))
        case atStart => exact ⟨0, by omega, by omega, rfl, HDc, HXc, HF, hid (fun j i2 u v h1 h2 => absurd h2 (by omega))⟩
        case round =>
          clear HDc HXc HF hx d1
          obtain ⟨i, hi, rfl, rfl, HDc, HXc, HF, HAA⟩ := hrel
          by_cases hli : i < q2
          · have hli' : (i : Int) < (q2 : Int) := by omega
            go_wp2
            go_loopg [6] i (fun gk v6 wr3 => ∃ j : Nat, j ≤ i ∧ gk = i - j ∧ v6 = .int .i64 j ∧ Hid (Below w.heap.size w wr3) ∧ Hid (wr3.heap[w.heap.size]? = some (.cells #[.slice (some ⟨b, o, none⟩) n sc, .slice ca m cc] 25 (0, 0))) ∧ Hid (RowM 5 FdAt wr3 fa x.fs) ∧ Hid (∀ j2 u v, j2 < j → x.fs[j2]? = some u → x.fs[i]? = some v → (u.nm.toList == v.nm.toList) = false))
            case atStart => exact ⟨0, by omega, by omega, rfl, HDc, HXc, HF, hid (fun j u v h1 => absurd h1 (by omega))⟩
            case round =>
              clear HDc HXc HF
              obtain ⟨j, hj, rfl, rfl, HDc, HXc, HF, HAB⟩ := hrel
              by_cases hlj : j < i
              · have hlj' : (j : Int) < (i : Int) := by omega
                have hlj2 : (j : Int) < (q2 : Int) := by omega
                obtain ⟨u, hu⟩ := get_some HQ2.out (show j < q2 by omega)
                obtain ⟨v, hv⟩ := get_some HQ2.out hli
                obtain ⟨b3, o3, rfl, hb3, hc3⟩ := HF.out.2 j u hu
                obtain ⟨b4, o4, e4, hb4, hc4⟩ := HF.out.2 i v hv
                cases e4
                have d0 := hc3 0 _ rfl
                have f0 := hc4 0 _ rfl
                simp only [Nat.add_zero] at d0 f0
                have HU := hid hu
                have HV := hid hv
                clear hu hv hc3 hc4
                cases e1 : (u.nm.toList == v.nm.toList)
                case true =>
                  have hf : r = true := HR.out.symm.trans (by
                    have h1 : fdN x = true := dup_of hlj (key_of HU.out) (by rw [key_of HV.out, show u.nm.toList = v.nm.toList by simpa using e1])
                    rw [twB, any_at HXX.out h1]; rfl)
                  subst hf
                  go_wp2
                  go_quiet (fail)
                  go_wp2
                  go_ret
                  exact ⟨rfl, hid (below_drewN HDc.out _)⟩
                case false =>
                  go_wp2
                  go_quiet (fail)
                  go_wp2
                  go_roundg (i - (j + 1))
                  case measure => omega
                  case rel => exact ⟨j + 1, by omega, rfl, rfl, hid (below_drewN HDc.out _), HXc, hid (HF.out.later fd_stays (below_drewN (Below.refl _ _) _)), hid (fun j2 u2 v2 h1 h2 h3 => by
                    by_cases hjj : j2 < j
                    · exact HAB.out j2 u2 v2 hjj h2 h3
                    · obtain rfl : j2 = j := by omega
                      rw [HU.out] at h2
                      rw [HV.out] at h3
                      cases h2
                      cases h3
                      exact e1)⟩
              · have hlj' : ¬ (j : Int) < (i : Int) := by omega
                obtain rfl : j = i := by omega
                go_wp2
                go_roundg (q2 - (j + 1))
                case measure => omega
                case rel => exact ⟨j + 1, by omega, rfl, rfl, HDc, HXc, HF, hid (fun j2 i2 u v h1 h2 h3 h4 => by
                  by_cases hjj : i2 < j
                  · exact HAA.out j2 i2 u v h1 hjj h3 h4
                  · obtain rfl : i2 = j := by omega
                    exact HAB.out j2 u v h1 h3 h4)⟩
          · have hli' : ¬ (i : Int) < (q2 : Int) := by omega
            have HFN : Hid (fdN x = false) := hid (nodup_pairs (fun j i2 u v h1 h2 h3 => HAA.out j i2 u v h1 (by have := (List.getElem?_eq_some_iff.1 h3).1; have := HQ2.out; omega) h2 h3))
            go_wp2
            go_roundg (n - (k + 1))
            case measure => omega
            case rel => exact ⟨k + 1, by omega, rfl, rfl, HDc, HXc, hid (fun i x' hi h1 => by
              by_cases hik : i < k
              · exact HA.out i x' hik h1
              · obtain rfl : i = k := by omega
                rw [HXX.out] at h1
                cases h1
                exact ⟨HFN.out, HQ.out.trans HE.out⟩)⟩
    · have hlt' : ¬ (k : Int) < (n : Int) := by omega
      have HR2 : Hid (dup (keysOf (cs.map (·.nm))) = r) := hid (by
        rw [← HR.out, twB, any_no (fun i x hi h1 => (HA.out i x (by have := HN.out; omega) h1).1), nodup_idx (f := StD.nm) (fun i x hi h1 => (HA.out i x (by have := HN.out; omega) h1).2)]
        rfl)
      clear HR HA
      go_wp2
      go_loopg [7] m (fun gk v7 wr2 => ∃ k : Nat, k ≤ m ∧ gk = m - k ∧ v7 = .int .i64 k ∧ Hid (Below w.heap.size w wr2) ∧ Hid (wr2.heap[w.heap.size]? = some (.cells #[.slice sa n sc, .slice ca m cc] 25 (0, 0))) ∧ Hid (∀ i x, i < k → cs[i]? = some x → idxL (coN x.nm) cs 0 = i))
      case atStart => exact ⟨0, by omega, by omega, rfl, HB, HX, hid (fun i x hi => absurd hi (by omega))⟩
      case round =>
        clear HB HX hx
        obtain ⟨k, hk, rfl, rfl, HB, HX, HA⟩ := hrel
        have hx := cells_at HX.out
        by_cases hlt : k < m
        · have hlt' : (k : Int) < (m : Int) := by omega
          obtain ⟨x, hx1⟩ := get_some HM.out hlt
          have HDc := hid HB.out.drew
          obtain ⟨b, o, rfl, hb1, va, vc, fa, fc, ia, ic, hc1, hm1⟩ := (H2.out _ HDc.out).2 k x hx1
          have HXc : Hid (wr.drew.heap[w.heap.size]? = some (.cells #[.slice sa n sc, .slice (some ⟨b, o, none⟩) m cc] 25 (0, 0))) := hid HX.out
          have HKc : Hid (wr.drew.cell? ⟨b, o + k * 8, none⟩ = some (.string x.nm)) := hid (hc1 0 _ rfl)
          have HXX := hid hx1
          have hk0 : (0 : Int) ≤ (k : Int) := by omega
          have hk1 : (k : Int) ≤ (m : Int) := by omega
          obtain ⟨q, hq⟩ : ∃ q, idxL (coN x.nm) cs 0 = q := ⟨_, rfl⟩
          have HQ := hid hq
          clear hx1 hc1 hm1 HB HX hq
          cases e : (q != (k : Int))
          case true =>
            have hf : r = true := HR2.out.symm.trans (dup_idx (f := CoD.nm) HXX.out (show idxL (coN x.nm) cs 0 ≠ k by rw [HQ.out]; simpa using e))
            subst hf
            go_wp2
            go_region_held3 (fun W => Hid (Below w.heap.size w W) ∧ (∀ i, W.cell? ⟨w.heap.size, i, none⟩ = (#[.slice sa n sc, .slice (some ⟨b, o, none⟩) m cc] : Array Value)[i]?) ∧ W.cell? ⟨b, o + k * 8, none⟩ = some (.string x.nm))
              (first | exact ⟨HDc, cells_at HXc.out, HKc.out⟩)
              (first
              | (go_at_call 13; have tok := HDc; go_must (refine (rfco_q HM.out sa n sc (some ⟨b, o, none⟩) cc x.nm _ (H2.out _ HDc.out)).mono ?_); rw [HQ.out]; rintro e v ⟨rfl, hv⟩; have HDc := hid (after tok.out hv.out tok.out.size); have HXc := hid (old_block hv.out (Array.getElem?_eq_some_iff.1 HXc.out).1 HXc.out); have HKc := hid ((hv.out.cell (p := ⟨b, o + k * 8, none⟩) hb1).trans HKc.out); clear tok hv))
            go_wp2
            go_ret
            exact ⟨rfl, HDc⟩
          case false =>
            have HE := hid (show q = (k : Int) by simpa using e)
            go_wp2
            go_region_held3 (fun W => Hid (Below w.heap.size w W) ∧ (∀ i, W.cell? ⟨w.heap.size, i, none⟩ = (#[.slice sa n sc, .slice (some ⟨b, o, none⟩) m cc] : Array Value)[i]?) ∧ W.cell? ⟨b, o + k * 8, none⟩ = some (.string x.nm))
              (first | exact ⟨HDc, cells_at HXc.out, HKc.out⟩)
              (first
              | (go_at_call 13; have tok := HDc; go_must (refine (rfco_q HM.out sa n sc (some ⟨b, o, none⟩) cc x.nm _ (H2.out _ HDc.out)).mono ?_); rw [HQ.out]; rintro e v ⟨rfl, hv⟩; have HDc := hid (after tok.out hv.out tok.out.size); have HXc := hid (old_block hv.out (Array.getElem?_eq_some_iff.1 HXc.out).1 HXc.out); have HKc := hid ((hv.out.cell (p := ⟨b, o + k * 8, none⟩) hb1).trans HKc.out); clear tok hv))
            go_wp2
            go_roundg (m - (k + 1))
            case measure => omega
            case rel => exact ⟨k + 1, by omega, rfl, rfl, HDc, HXc, hid (fun i x' hi h1 => by
              by_cases hik : i < k
              · exact HA.out i x' hik h1
              · obtain rfl : i = k := by omega
                rw [HXX.out] at h1
                cases h1
                exact HQ.out.trans HE.out)⟩
        · have hlt' : ¬ (k : Int) < (m : Int) := by omega
          have hf : r = false := HR2.out.symm.trans (nodup_idx (f := CoD.nm) (fun i x hi h1 => HA.out i x (by have := HM.out; omega) h1))
          subst hf
          go_wp2
          go_ret
          exact ⟨rfl, HB⟩
end Go.Proofs.Ytfhdiahjfnphkaa
