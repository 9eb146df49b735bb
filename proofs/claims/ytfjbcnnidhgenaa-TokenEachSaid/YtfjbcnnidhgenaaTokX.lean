/- TokenPlaces, as a call: it returns true, and leaves what was as it was. No conditions. -/
import Derived.Test.YtfjbcnnidhgenaaTokV
import Derived.Test.YtfjbcnnidhgenaaTokW
namespace Go.Proofs.Ytfjbcnnidhgenaa
open Go.RowKit
set_option maxRecDepth 100000 in
set_option maxHeartbeats 8000000 in
theorem places_big (s : ByteArray) (w : World) (hs : 3000 < s.size) :
    Calls Try.prog 4 #[.string s] w fun e w' => e = .returned (.bool true) ∧ Below w.heap.size w w' := by
  have h1 : (3000 : Int) < (s.size : Int) := by omega
  go_enter Try.func4, Try.ntmps4
  go_wp2_with (go_at_call 5; refine (alive_i _).mono ?_; rintro e w1 ⟨rfl, hb⟩)
  go_ret
  exact ⟨rfl, hb⟩
theorem scan_bad (s : ByteArray) (w : World) (hs : s.size ≤ 1000000) {d : D} (hd : (scanL s.data.toList).2 = some d) :
    Calls Try.prog 8 #[.string s] w fun e w' => e = .returned (.tuple #[.slice none 0 0, diagV 1 d.fault d.line d.col]) ∧ Hid (Below w.heap.size w w') := by
  refine (scan_i s w hs).mono ?_
  rintro e w' ⟨hb, ⟨hn, -⟩ | ⟨d', hd', he⟩⟩
  · rw [hd] at hn; cases hn
  · rw [hd] at hd'; injection hd' with h; subst h; exact ⟨he, hb⟩
set_option maxRecDepth 100000 in
set_option maxHeartbeats 8000000 in
theorem places_bad (s : ByteArray) (w : World) (hs : s.size ≤ 3000) {d : D} (hd : (scanL s.data.toList).2 = some d) :
    Calls Try.prog 4 #[.string s] w fun e w' => e = .returned (.bool true) ∧ Below w.heap.size w w' := by
  have h1 : ¬ (3000 : Int) < (s.size : Int) := by omega
  have hf := eachL_fault _ _ _ _ _ d hd
  have hf0 : ((d.fault : Int) != 0) = true := by rcases hf with e | e <;> rw [e] <;> rfl
  clear hf
  have HD := hid hd
  clear hd
  go_enter Try.func4, Try.ntmps4
  go_wp2_with (first
    | (go_at_call 8; refine (scan_bad s _ (by omega) HD.out).mono ?_; rintro e w1 ⟨rfl, hb⟩)
    | (go_at_call 5; refine (alive_i _).mono ?_; rintro e w2 ⟨rfl, hb2⟩; have HB2 := hid hb2; clear hb2))
  go_ret
  exact ⟨rfl, (hb.out.trans ((Below.refl _ w1).alloc hb.out.size _)).trans (HB2.out.mono (by have := hb.out.size; simp only [World.size_alloc]; omega))⟩

theorem scan_ok (s : ByteArray) (w : World) (hs : s.size ≤ 1000000) (hd : (scanL s.data.toList).2 = none) (h0 : (scanL s.data.toList).1.length ≠ 0) :
    Calls Try.prog 8 #[.string s] w fun e w' => ∃ g cap, e = .returned (.tuple #[.slice (some ⟨g, 0, none⟩) (scanL s.data.toList).1.length cap, .agg #[.int .i64 0, .int .i64 0, .int .i64 0, .int .i64 0]]) ∧ (scanL s.data.toList).1.length ≤ cap ∧ cap ≤ 9223372036854775807 ∧
      Hid (Below w.heap.size w w') ∧ Hid (w.heap.size ≤ g ∧ g < w'.heap.size) ∧ Hid (∀ j u, (((scanL s.data.toList).1.map elT).flatMap tokCells)[j]? = some u → w'.cell? ⟨g, j, none⟩ = some u) := by
  refine (scan_i s w hs).mono ?_
  rintro e w' ⟨hb, ⟨hn, v, rfl, hown⟩ | ⟨d', hd', he⟩⟩
  · obtain ⟨g, cap, rfl, h1, h2, h3, hc⟩ := row_cell hown h0
    exact ⟨g, cap, rfl, h1, h2, hb, ⟨h3, (hown.lt g rfl).2⟩, hc⟩
  · rw [hd] at hd'; cases hd'
theorem flat_get : ∀ (xs : List El) (i j : Nat) (x : El), xs[i]? = some x → j < 5 → (xs.flatMap tokCells)[i * 5 + j]? = (tokCells x)[j]?
  | [], i, j, x, h, _ => by simp at h
  | y :: r, 0, j, x, h, hj => by
    simp at h; subst h
    rw [List.flatMap_cons, List.getElem?_append_left (by simp [tokCells]; omega)]
    simp
  | y :: r, i + 1, j, x, h, hj => by
    simp at h
    rw [List.flatMap_cons, List.getElem?_append_right (by simp [tokCells]; omega)]
    have := flat_get r i j x h hj
    rw [show (i + 1) * 5 + j - (tokCells y).length = i * 5 + j by simp [tokCells]; omega]
    exact this
/-- What is needed of a token at its turn. -/
theorem good_head {L : List UInt8} {a : Nat} {t : T} {r : List T} (h : Good L a (t :: r)) :
    a ≤ t.start ∧ t.start + t.text.length ≤ L.length ∧ t.text = (L.drop t.start).take t.text.length ∧ posL L t.start = (t.line, t.col) ∧
      posL L (t.start + t.text.length) = (t.line, t.col + t.text.length) ∧ (t.text.length = 0 ↔ r = []) ∧ (r ≠ [] → Good L (t.start + t.text.length) r) := by
  cases r with
  | nil =>
    obtain ⟨h1, h2, h3, h4⟩ := h
    rw [h3]
    refine ⟨h1, by simp; omega, by simp, h4, by simpa using h4, by simp, fun q => absurd rfl q⟩
  | cons t2 r =>
    obtain ⟨h1, h2, h3, h4, h5, h6, h7⟩ := h
    exact ⟨h1, h3, h4, h5, h6, ⟨fun e => absurd (List.eq_nil_of_length_eq_zero e) h2, fun e => by cases e⟩, fun _ => h7⟩
theorem lt_pos {L : List UInt8} {a b l c tl tc : Nat} (hab : a < b) (hb : b ≤ L.length) (h1 : posL L a = (l, c)) (h2 : posL L b = (tl, tc)) : l < tl ∨ (l = tl ∧ c < tc) := by
  obtain ⟨n, rfl⟩ : ∃ n, b = a + n + 1 := ⟨b - a - 1, by omega⟩
  have := pos_rise L n a hb
  rw [h1, h2] at this
  exact this
theorem pos_nl {s : ByteArray} {b l c : Nat} (hb : b < s.size) (h : posL s.data.toList b = (l, c)) (h10 : ((s[b].toNat : Int) == 10) = true) : posL s.data.toList (b + 1) = (l + 1, 1) := by
  rw [posL_succ (drop_at s b hb), h]
  have e : (s[b] == 10) = true := by rw [← beqI]; exact h10
  have e' : s[b] = 10 := by simpa using e
  simp [stepP, e']
theorem pos_no {s : ByteArray} {b l c : Nat} (hb : b < s.size) (h : posL s.data.toList b = (l, c)) (h10 : ((s[b].toNat : Int) == 10) = false) : posL s.data.toList (b + 1) = (l, c + 1) := by
  rw [posL_succ (drop_at s b hb), h]
  have e : (s[b] == 10) = false := by rw [← beqI]; exact h10
  have e' : ¬ s[b] = 10 := by simpa using e
  simp [stepP, e']
theorem blk2f {W : World} {k t : Nat} {v0 v1 : Value} (h : W.heap[k]? = some (.cells #[v0, v1] t (0, 0))) :
    W.cell? ⟨k, 0, none⟩ = some v0 ∧ W.cell? ⟨k, 1, none⟩ = some v1 ∧ W.frozen? ⟨k, 0, none⟩ = false ∧ W.frozen? ⟨k, 1, none⟩ = false := by
  simp [World.cell?, World.frozen?, h]
theorem put2_heap {W : World} {k t N : Nat} {v0 v1 : Value} (u0 u1 : Value) (h : W.heap[k]? = some (.cells #[v0, v1] t (0, 0))) : (((W.drewN N).setCell ⟨k, 0, none⟩ u0).setCell ⟨k, 1, none⟩ u1).heap[k]? = some (.cells #[u0, u1] t (0, 0)) := by

  simp [World.setCell, Array.getElem?_modify, h]
theorem put1_heap {W : World} {k t N : Nat} {v0 v1 : Value} (u1 : Value) (h : W.heap[k]? = some (.cells #[v0, v1] t (0, 0))) : ((W.drewN N).setCell ⟨k, 1, none⟩ u1).heap[k]? = some (.cells #[v0, u1] t (0, 0)) := by

  simp [World.setCell, Array.getElem?_modify, h]
set_option maxRecDepth 100000 in
set_option maxHeartbeats 8000000 in
theorem places_ok (s : ByteArray) (w : World) (hs : s.size ≤ 3000) (hd : (scanL s.data.toList).2 = none) :
    Calls Try.prog 4 #[.string s] w fun e w' => e = .returned (.bool true) ∧ Below w.heap.size w w' := by
  have h1 : ¬ (3000 : Int) < (s.size : Int) := by omega
  have HG := hid (scan_good hd)
  have h0 : (scanL s.data.toList).1.length ≠ 0 := by
    intro e
    rw [List.eq_nil_of_length_eq_zero e] at HG
    exact HG.out
  have SC := hid (fun w => scan_ok s w (by omega) hd h0)
  have HNN := hid (show (scanL s.data.toList).1.length ≤ 3002 from by
    have := eachL_len s.data.toList (s.data.toList.length + 1) 0 1 0
    have e : (elems (scanL s.data.toList)).length = (scanL s.data.toList).1.length := by simp [elems, hd]
    rw [show eachL s.data.toList (s.data.toList.length + 1) 0 1 0 = scanL s.data.toList from rfl, e, ← Lib.size_eq] at this
    omega)
  obtain ⟨ts, hts⟩ : ∃ ts, ts = (scanL s.data.toList).1 := ⟨_, rfl⟩
  rw [← hts] at HG SC h0 HNN
  clear hts hd
  have hn : ts.length ≤ 3002 := HNN.out
  go_enter Try.func4, Try.ntmps4
  go_wp2_with (go_at_call 8; refine (SC.out _).mono ?_; rintro e w1 ⟨g, cap, rfl, hc1, hc2, hb, hg, hcell⟩)
  have HW := hid (Only.refl (w1.heap.size + 1) ((w1.alloc (.cells #[.int .i64 0, .int .i64 0, .int .i64 0, .int .i64 0] 28)).alloc (.cells #[.int .i64 1, .int .i64 1] 26)))
  have HB := hid (show ((w1.alloc (.cells #[.int .i64 0, .int .i64 0, .int .i64 0, .int .i64 0] 28)).alloc (.cells #[.int .i64 1, .int .i64 1] 26)).heap[w1.heap.size + 1]? = some (.cells #[.int .i64 1, .int .i64 1] 26 (0, 0)) from by
    have := heap_alloc_new (w1.alloc (.cells #[.int .i64 0, .int .i64 0, .int .i64 0, .int .i64 0] 28)) (.cells #[.int .i64 1, .int .i64 1] 26)
    rwa [World.size_alloc] at this)
  have HBel := hid (((hb.out.alloc hb.out.size (.cells #[.int .i64 0, .int .i64 0, .int .i64 0, .int .i64 0] 28)).alloc (by have := hb.out.size; rw [World.size_alloc]; omega) (.cells #[.int .i64 1, .int .i64 1] 26)))
  have HC := hid (show ∀ j u, ((ts.map elT).flatMap tokCells)[j]? = some u → ((w1.alloc (.cells #[.int .i64 0, .int .i64 0, .int .i64 0, .int .i64 0] 28)).alloc (.cells #[.int .i64 1, .int .i64 1] 26)).cell? ⟨g, j, none⟩ = some u from fun j u hu =>
    (World.grownBy_alloc _ _ none).cell ((World.grownBy_alloc _ _ none).cell (hcell.out j u hu) (by simp)) (by simp))
  obtain ⟨bp, Hbp⟩ : ∃ bp, Hid (bp = w1.heap.size + 1) := ⟨_, hid rfl⟩
  have hgb := hid (show some g ≠ some bp from fun e => by injection e with e; have := hg.out.2; have := Hbp.out; omega)
  have hbw := hid (show w.heap.size ≤ bp from by have := hb.out.size; have := Hbp.out; omega)
  obtain ⟨W2, hW2⟩ : ∃ W2, ((w1.alloc (.cells #[.int .i64 0, .int .i64 0, .int .i64 0, .int .i64 0] 28)).alloc (.cells #[.int .i64 1, .int .i64 1] 26)) = W2 := ⟨_, rfl⟩
  rw [hW2] at HW HB HBel HC ⊢
  rw [← Hbp.out] at HW HB ⊢
  clear hW2 hb hg hcell hn
  have hlen := hid (show s.data.toList.length = s.size from (Lib.size_eq s).symm)
  go_loopg [5, 7] ts.length (fun gk v5 v7 wr => ∃ a i l c : Nat, i ≤ ts.length ∧ gk = ts.length - i ∧ v5 = .int .i64 a ∧ v7 = .int .i64 i ∧ a ≤ s.size ∧ Hid (posL s.data.toList a = (l, c)) ∧ Hid (wr.heap[bp]? = some (.cells #[.int .i64 l, .int .i64 c] 26 (0, 0))) ∧ Hid (Only bp W2 wr) ∧
    Hid (i < ts.length → Good s.data.toList a (ts.drop i)))
  case atStart => exact ⟨0, 0, 1, 1, Nat.zero_le _, rfl, rfl, rfl, Nat.zero_le _, hid rfl, HB, HW, hid (fun _ => HG.out)⟩
  case round =>
    obtain ⟨a, i, l, c, hi, rfl, rfl, rfl, ha, HP, HPB, HO, HGD⟩ := hrel
    by_cases hlt : i < ts.length
    · have hlt' : (i : Int) < (ts.length : Int) := by omega
      obtain ⟨t, ht⟩ : ∃ t, ts[i]? = some t := ⟨_, List.getElem?_eq_getElem hlt⟩
      have hdr : ts.drop i = t :: ts.drop (i + 1) := by
        rw [List.drop_eq_getElem_cons hlt]
        congr 1
        rw [List.getElem?_eq_getElem hlt] at ht
        injection ht
      have hgd := HGD.out hlt
      rw [hdr] at hgd
      obtain ⟨m1, m2, m3, m4, m5, m6, m7⟩ := good_head hgd
      rw [hlen.out] at m2
      have hx : (ts.map elT)[i]? = some (elT t) := by rw [List.getElem?_map, ht]; rfl
      obtain ⟨tx, Htx⟩ : ∃ tx : ByteArray, Hid (tx = ⟨⟨t.text⟩⟩) := ⟨_, hid rfl⟩
      have htz : tx.size = t.text.length := by rw [Htx.out, Lib.size_eq]
      have HTK := hid (show ∀ wx, Only bp W2 wx → wx.cell? ⟨g, i * 5 + 1, none⟩ = some (.string tx) ∧ wx.cell? ⟨g, i * 5 + 3, none⟩ = some (.int .i64 t.line) ∧ wx.cell? ⟨g, i * 5 + 4, none⟩ = some (.int .i64 t.col) from fun wx hO => by
        have f := fun j u hj (hu : (tokCells (elT t))[j]? = some u) => hO.cell (HC.out (i * 5 + j) u ((flat_get _ i j _ hx hj).trans hu)) hgb.out
        refine ⟨?_, f 3 _ (by omega) rfl, f 4 _ (by omega) rfl⟩
        rw [Htx.out]; exact f 1 _ (by omega) rfl)
      obtain ⟨st, Hst⟩ : ∃ st, Hid (st = t.start) := ⟨_, hid rfl⟩
      rw [← Hst.out] at m1 m2 m3 m4 m5 m7
      rw [← htz] at m2 m3 m5 m6 m7
      obtain ⟨tl, Htl⟩ : ∃ tl, Hid (tl = t.line) := ⟨_, hid rfl⟩
      obtain ⟨tc, Htc⟩ : ∃ tc, Hid (tc = t.col) := ⟨_, hid rfl⟩
      rw [← Htl.out, ← Htc.out] at m4 m5 HTK
      have M3 := hid m3
      have M4 := hid m4
      have M5 := hid m5
      have M6 := hid m6
      have M7 := hid m7
      have HDR := hid hdr
      clear m3 m4 m5 m6 m7 hdr hgd hx ht htz
      have bdl := pos_bd s.data.toList st
      rw [M4.out] at bdl
      obtain ⟨u1, u2⟩ := bdl
      simp only at u1 u2
      go_wp2
      go_loopg [5] (st - a) (fun g2 v5 wx => ∃ b l c : Nat, a ≤ b ∧ b ≤ st ∧ g2 = st - b ∧ v5 = .int .i64 b ∧ Hid (posL s.data.toList b = (l, c)) ∧ Hid (wx.heap[bp]? = some (.cells #[.int .i64 l, .int .i64 c] 26 (0, 0))) ∧ Hid (Only bp W2 wx))
      case atStart => exact ⟨a, l, c, Nat.le_refl _, m1, rfl, rfl, HP, HPB, HO⟩
      case round =>
        obtain ⟨b, l, c, hab, hbst, rfl, rfl, HP, HPB, HO⟩ := hrel
        obtain ⟨p0, p1, p2, p3⟩ := blk2f HPB.out
        obtain ⟨k1, k3, k4⟩ := HTK.out _ HO.out
        have bdb := pos_bd s.data.toList b
        rw [HP.out] at bdb
        obtain ⟨u3, u4⟩ := bdb
        simp only at u3 u4
        by_cases hbs : b < st
        · have hbz : b < s.size := by omega
          have hbz' : (b : Int) < (s.size : Int) := by omega
          have hlp := lt_pos hbs (by rw [hlen.out]; omega) HP.out M4.out
          rcases hlp with q | ⟨q1, q2⟩
          · have q' : (l : Int) < (tl : Int) := by omega
            cases h10 : ((s[b].toNat : Int) == 10)
            case true =>
              go_wp2
              go_quiet (fail)
              go_wp2
              go_roundg (st - (b + 1))
              case measure => omega
              case rel => exact ⟨b + 1, l + 1, 1, by omega, by omega, rfl, rfl, hid (pos_nl hbz HP.out h10), hid (put2_heap (.int .i64 ((l : Int) + 1)) (.int .i64 1) HPB.out), hid (((HO.out.drewN _).set _ _).set _ _)⟩
            case false =>
              go_wp2
              go_quiet (fail)
              go_wp2
              go_roundg (st - (b + 1))
              case measure => omega
              case rel => exact ⟨b + 1, l, c + 1, by omega, by omega, rfl, rfl, hid (pos_no hbz HP.out h10), hid (put1_heap (.int .i64 ((c : Int) + 1)) HPB.out), hid ((HO.out.drewN _).set _ _)⟩
          · subst q1
            have q' : (c : Int) < (tc : Int) := by omega
            have q3 : ¬ (c : Int) = (tc : Int) := by omega
            have q4 : ¬ c = tc := by omega
            cases h10 : ((s[b].toNat : Int) == 10)
            case true =>
              go_wp2
              go_quiet (fail)
              go_wp2
              go_roundg (st - (b + 1))
              case measure => omega
              case rel => exact ⟨b + 1, l + 1, 1, by omega, by omega, rfl, rfl, hid (pos_nl hbz HP.out h10), hid (put2_heap (.int .i64 ((l : Int) + 1)) (.int .i64 1) HPB.out), hid (((HO.out.drewN _).set _ _).set _ _)⟩
            case false =>
              go_wp2
              go_quiet (fail)
              go_wp2
              go_roundg (st - (b + 1))
              case measure => omega
              case rel => exact ⟨b + 1, l, c + 1, by omega, by omega, rfl, rfl, hid (pos_no hbz HP.out h10), hid (put1_heap (.int .i64 ((c : Int) + 1)) HPB.out), hid ((HO.out.drewN _).set _ _)⟩
        · have hbs' : b = st := by omega
          subst hbs'
          have he := HP.out.symm.trans M4.out
          injection he with e1 e2
          subst e1 e2
          clear hbs
          have htz2 : (b : Int) + (tx.size : Int) ≤ (s.size : Int) := by omega
          have hgt : decide ((s.size : Int) < (b : Int) + (tx.size : Int)) = false := decide_eq_false (by omega)
          have hgt2 : ¬ (s.size : Int) < (b : Int) + (tx.size : Int) := by omega
          have hext : s.extract b (b + tx.size) = tx := by
            have e := M3.out
            have h2 : (s.extract b (b + tx.size)).data.toList = t.text := by
              rw [Lib.extract_data, show b + tx.size - b = tx.size by omega]; exact e.symm
            rw [mk_of h2]; exact Htx.out.symm
          by_cases hlast : ts.drop (i + 1) = []
          · have hz0 : tx.size = 0 := M6.out.2 hlast
            have hil : i + 1 = ts.length := by
              have := congrArg List.length hlast
              simp at this; omega
            have b1 : ((tx.size : Int) == 0) = true := by rw [hz0]; rfl
            have HZ0 := hid hz0
            have hpz : ¬ (0 : Int) < (tx.size : Int) := by omega
            clear hz0
            have b2 : ((i : Int) == (ts.length : Int) - 1) = true := by rw [beq_iff_eq]; omega
            by_cases hbz : b < s.size
            · have hbz' : (b : Int) < (s.size : Int) := by omega
              go_wp2
              go_quiet (fail)
              go_wp2
              go_quiet (fail)
              go_wp2
              go_roundg (ts.length - (i + 1))
              case measure => omega
              case rel => exact ⟨b, i + 1, _, _, by omega, rfl, rfl, rfl, by omega, HP, hid HPB.out, hid (HO.out.drewN _), hid (fun q => absurd q (by omega))⟩
            · have hbz' : ¬ (b : Int) < (s.size : Int) := by omega
              go_wp2
              go_quiet (fail)
              go_wp2
              go_quiet (fail)
              go_wp2
              go_roundg (ts.length - (i + 1))
              case measure => omega
              case rel => exact ⟨b, i + 1, _, _, by omega, rfl, rfl, rfl, by omega, HP, hid HPB.out, hid (HO.out.drewN _), hid (fun q => absurd q (by omega))⟩
          · have hz0 : tx.size ≠ 0 := fun e => hlast (M6.out.1 e)
            have hil : i + 1 < ts.length := by
              by_cases q : i + 1 < ts.length
              · exact q
              · exact absurd (List.drop_eq_nil_of_le (by omega)) hlast
            have b1 : ((tx.size : Int) == 0) = false := beq_eq_false_iff_ne.2 (by omega)
            have b2 : ((i : Int) == (ts.length : Int) - 1) = false := beq_eq_false_iff_ne.2 (by omega)
            have hpz : (0 : Int) < (tx.size : Int) := by omega
            have hbz : b < s.size := by omega
            have hbz' : (b : Int) < (s.size : Int) := by omega
            go_wp2
            go_quiet (fail)
            go_wp2
            go_quiet (fail)
            go_wp2
            go_roundg (ts.length - (i + 1))
            case measure => omega
            case rel => exact ⟨b + tx.size, i + 1, _, _, by omega, rfl, rfl, rfl, by omega, hid M5.out, hid (put1_heap (.int .i64 _) HPB.out), hid ((HO.out.drewN _).set _ _), hid (fun _ => M7.out hlast)⟩
    · have hlt' : ¬ (i : Int) < (ts.length : Int) := by omega
      have HBB := hid (HBel.out.grown HO.out (by have := HBel.out.size; omega) (fun k e => by cases e; exact hbw.out))
      go_wp2_with (go_at_call 5; refine (alive_i _).mono ?_; rintro e w2 ⟨rfl, hb2⟩; have HB2 := hid hb2; clear hb2)
      go_ret
      exact ⟨rfl, HBB.out.trans (HB2.out.mono HBB.out.size)⟩
/-- **TokenPlaces returns true, and leaves what was as it was.** -/
theorem places_i (s : ByteArray) (w : World) : Calls Try.prog 4 #[.string s] w fun e w' => e = .returned (.bool true) ∧ Below w.heap.size w w' := by
  by_cases hs : 3000 < s.size
  · exact places_big s w hs
  · cases hd : (scanL s.data.toList).2 with
    | none => exact places_ok s w (by omega) hd
    | some d => exact places_bad s w (by omega) hd
end Go.Proofs.Ytfjbcnnidhgenaa
