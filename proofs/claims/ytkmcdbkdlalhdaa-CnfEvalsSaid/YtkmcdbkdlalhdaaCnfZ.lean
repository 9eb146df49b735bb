/- CnfSound, as a call: it returns true, and leaves what was as it was. No conditions. -/
import Derived.Test.YtkmcdbkdlalhdaaCnfY
import Derived.Deep.CutRange
import Derived.Deep.DeepCutAuto
namespace Go.Proofs.Ytkmcdbkdlalhdaa
open Go.RowKit Go.Maps Go.Lib Go.Sort
set_option linter.unusedVariables false
set_option linter.unusedSimpArgs false
structure Snd (w W : World) (N : Int) (A : Option Addr) (n cap : Nat) (ls : List (List Int)) (A2 : Option Addr) (nm : Nat) (m : List Bool) : Prop where
  below : Below w.heap.size w W
  box : W.heap[w.heap.size]? = some (.cells #[.int .i64 N, .slice A n cap] 24 (0, 0))
  ls : Lists W w.heap.size A n ls
  m : Bools W w.heap.size A2 nm m
theorem Snd.later {w W W' : World} {N : Int} {A A2 : Option Addr} {n cap nm : Nat} {ls : List (List Int)} {m : List Bool} (h : Snd w W N A n cap ls A2 nm m) (hb : Below W.heap.size W W') : Snd w W' N A n cap ls A2 nm m :=
  ⟨h.below.trans (hb.mono h.below.size), old_block hb (Array.getElem?_eq_some_iff.1 h.box).1 h.box, h.ls.below (hb.mono h.below.size), h.m.below (hb.mono h.below.size)⟩
/-- A formula of two clauses, in memory. -/
structure TwoOne (w3 W : World) (N : Int) (u v : Value) (F S : Nat) : Prop where
  below : Below w3.heap.size w3 W
  f : W.heap[F]? = some (.cells #[.int .i64 N, .slice (some ⟨S, 0, none⟩) 2 2] 29 (0, 0))
  s : W.heap[S]? = some (.cells #[u, v] 40 (0, 0))
theorem TwoOne.later {w3 W W' : World} {N : Int} {u v : Value} {F S : Nat} (h : TwoOne w3 W N u v F S) (hb : Below W.heap.size W W') : TwoOne w3 W' N u v F S := by
  have l := fun {k : Nat} {o : Obj} (q : W.heap[k]? = some o) => old_block hb (Array.getElem?_eq_some_iff.1 q).1 q
  exact ⟨h.below.trans (hb.mono h.below.size), l h.f, l h.s⟩
theorem two_a (w3 : World) (N : Int) (u v : Value) : TwoOne w3 ((w3.alloc (.cells #[.int .i64 N, .slice (some ⟨w3.heap.size + 1, 0, none⟩) 2 2] 29)).alloc (.cells #[u, v] 40)).drew N u v w3.heap.size (w3.heap.size + 1) := by
  have e2 := heap_alloc_new (w3.alloc (.cells #[.int .i64 N, .slice (some ⟨w3.heap.size + 1, 0, none⟩) 2 2] 29)) (.cells #[u, v] 40)
  simp only [World.size_alloc] at e2
  have h : TwoOne w3 ((w3.alloc (.cells #[.int .i64 N, .slice (some ⟨w3.heap.size + 1, 0, none⟩) 2 2] 29)).alloc (.cells #[u, v] 40)) N u v w3.heap.size (w3.heap.size + 1) := ⟨below2 _ _ _, old_block (below1 _ _) (by simp) (heap_alloc_new w3 _), e2⟩
  exact h.later (below_drew1 _)
theorem two_b (w3 : World) (N : Int) (u v : Value) : TwoOne w3 ((w3.alloc (.cells #[u, v] 40)).alloc (.cells #[.int .i64 N, .slice (some ⟨w3.heap.size, 0, none⟩) 2 2] 29)).drew N u v (w3.heap.size + 1) w3.heap.size := by
  have e2 := heap_alloc_new (w3.alloc (.cells #[u, v] 40)) (.cells #[.int .i64 N, .slice (some ⟨w3.heap.size, 0, none⟩) 2 2] 29)
  simp only [World.size_alloc] at e2
  have h : TwoOne w3 ((w3.alloc (.cells #[u, v] 40)).alloc (.cells #[.int .i64 N, .slice (some ⟨w3.heap.size, 0, none⟩) 2 2] 29)) N u v (w3.heap.size + 1) w3.heap.size := ⟨below2 _ _ _, e2, old_block (below1 _ _) (by simp) (heap_alloc_new w3 _)⟩
  exact h.later (below_drew1 _)
/-- A slice of two clauses. -/
theorem two_list {W : World} {k : Nat} {u v : Value} {xs ys : List Int} (h : W.heap[k]? = some (.cells #[u, v] 40 (0, 0))) (hi : IsInts W W.heap.size u xs) (hj : IsInts W W.heap.size v ys) : Lists W W.heap.size (some ⟨k, 0, none⟩) 2 [xs, ys] := by
  refine ⟨[u, v], ⟨rfl, .inr ⟨k, 0, rfl, (Array.getElem?_eq_some_iff.1 h).1, fun j x hu => ?_⟩⟩, rfl, fun i zs hy => ?_⟩
  · rw [Nat.zero_add, cells_at h, ← hu]
    match j with
    | 0 => rfl
    | 1 => rfl
    | j + 2 => simp
  · match i, hy with
    | 0, hy => simp at hy; subst hy; exact ⟨u, rfl, hi⟩
    | 1, hy => simp at hy; subst hy; exact ⟨v, rfl, hj⟩
    | i + 2, hy => simp at hy
theorem short2 {xs ys : List Int} (h : xs.length ≤ 200000) (h2 : ys.length ≤ 200000) : Short [xs, ys] := by
  intro k zs hy
  match k, hy with
  | 0, hy => simp at hy; subst hy; exact h
  | 1, hy => simp at hy; subst hy; exact h2
  | k + 2, hy => simp at hy
theorem res_1 {xs ys : List Int} {v : Int} (h : resB xs ys v = true) : 1 ≤ v := by
  simp only [resB, Bool.and_eq_true, decide_eq_true_eq] at h
  exact h.1.1
set_option maxRecDepth 100000 in
set_option maxHeartbeats 8000000 in
theorem sound_small (ls : List (List Int)) (m : List Bool) (a b v x : Int) (A A2 : Option Addr) (n cap nm cap2 : Nat) (w : World) (h : Lists w w.heap.size A n ls) (hm : Bools w w.heap.size A2 nm m) (hli : lightF ls = true) (h100 : nm ≤ 100) (hr : rightF nm ls = true) (hv : v < 1 ∨ IntKind.i64.wrap (-v) = -v) :
    Calls Try.prog 5 #[form nm A n cap, .int .i64 a, .int .i64 b, .int .i64 v, .slice A2 nm cap2, .int .i64 x] w fun e w' => e = .returned (.bool true) ∧ Hid (Below w.heap.size w w') := by
  have HB1 := hid (below1 w (formO nm A n cap 24))
  have HS0 : Hid (Snd w (w.alloc (formO nm A n cap 24)) nm A n cap ls A2 nm m) := hid ⟨HB1.out, heap_alloc_new _ _, h.below HB1.out, hm.below HB1.out⟩
  have HLi := hid (light_i nm ls A n cap w.heap.size (w.alloc (formO nm A n cap 24)) HB1.out.size HS0.out.ls)
  rw [hli] at HLi
  have HLS := hid (light_short hli)
  have HN := hid h.len
  have hn80 : n ≤ 80 := by have := HLS.out.2.1; have := HN.out; omega
  have HRr := hid (fun W (q : Snd w W nm A n cap ls A2 nm m) => rright_i nm ls A n cap w.heap.size W q.below.size q.ls (by omega) HLS.out.1)
  rw [hr] at HRr
  have HRF := hid hr
  have HV := hid hv
  have h100' : ¬ 100 < (nm : Int) := by omega
  have hnn : ((nm : Int) != (nm : Int)) = false := by simp
  obtain ⟨rng, HRng⟩ : ∃ rng, Hid (decide (0 ≤ a ∧ a < n ∧ 0 ≤ b ∧ b < n) = rng) := ⟨_, hid rfl⟩
  clear h hm hli hr hv
  go_enter Try.func5, Try.ntmps5
  go_upto_region 3 with (first
    | (go_at_call 7; go_must (refine HLi.out.mono ?_); rintro e w1 ⟨rfl, HB2⟩; have HS1 := hid (HS0.out.later HB2.out); have hx1 := cells_at HS1.out.box)
    | (go_at_call 11; go_must (refine (HRr.out _ HS1.out).mono ?_); rintro e w2 ⟨rfl, HB3⟩; have HS2 := hid (HS1.out.later HB3.out); have hx2 := cells_at HS2.out.box))
  clear hx1
  have HRes := hid (fun (xs ys : List Int) (q1 q2 : Nat) (B1 B2 : Option Addr) (c1 c2 : Nat) W (z1 : Ints W W.heap.size B1 q1 xs) (z2 : Ints W W.heap.size B2 q2 ys) (hq1 : q1 ≤ 100000) (hq2 : q2 ≤ 100000) => resolve_i xs ys v B1 B2 q1 c1 q2 c2 W.heap.size W (Nat.le_refl _) HV.out z1 z2 hq1 hq2)
  go_cut [56] from 37 to 55 (fun s56 wx => s56 = .bool rng ∧ w2 = wx)
  case first =>
    clear HRes
    by_cases g1 : 0 ≤ a
    · by_cases g2 : a < n
      · by_cases g3 : 0 ≤ b
        · by_cases g4 : b < n
          · have hf : rng = true := HRng.out.symm.trans (by simp [g1, g2, g3, g4])
            subst hf
            go_wp2_with fail
            go_meet
            exact ⟨rfl, rfl⟩
          · have hf : rng = false := HRng.out.symm.trans (by simp [g4])
            subst hf
            go_wp2_with fail
            go_meet
            exact ⟨rfl, rfl⟩
        · have hf : rng = false := HRng.out.symm.trans (by simp [g3])
          subst hf
          go_wp2_with fail
          go_meet
          exact ⟨rfl, rfl⟩
      · have hf : rng = false := HRng.out.symm.trans (by simp [g2])
        subst hf
        go_wp2_with fail
        go_meet
        exact ⟨rfl, rfl⟩
    · have hf : rng = false := HRng.out.symm.trans (by simp [g1])
      subst hf
      go_wp2_with fail
      go_meet
      exact ⟨rfl, rfl⟩
  case rest =>
    obtain ⟨rfl, rfl⟩ := hcut
    clear hx2
    go_upto_if 56 with fail
    go_cut [13, 14, 15] from 57 to 101 (fun s13 s14 s15 wx => Hid (Snd w wx nm A n cap ls A2 nm m))
    case first =>
      cases rng
      case false =>
        go_wp2_with fail
        go_meet
        exact HS2
      case true =>
        obtain ⟨g1, g2, g3, g4⟩ : 0 ≤ a ∧ a < n ∧ 0 ≤ b ∧ b < n := by have := HRng.out; simpa using this
        obtain ⟨p, rfl⟩ : ∃ p : Nat, a = p := ⟨a.toNat, by omega⟩
        obtain ⟨q, rfl⟩ : ∃ q : Nat, b = q := ⟨b.toNat, by omega⟩
        obtain ⟨b1, off, xs, A3, c3, rfl, hb1, hx, hcx, kx1, kx2, hix⟩ := HS2.out.ls.at_ (show p < n by omega)
        obtain ⟨b1', off', ys, A4, c4, e2, hb1', hy, hcy, ky1, ky2, hiy⟩ := HS2.out.ls.at_ (show q < n by omega)
        injection e2 with e2
        injection e2 with e3 e4
        subst e3 e4
        have HIX := hid (hix.more HS2.out.below.size)
        have HIY := hid (hiy.more HS2.out.below.size)
        have hl1 : xs.length ≤ 60 := HLS.out.2.2 _ _ hx
        have hl2 : ys.length ≤ 60 := HLS.out.2.2 _ _ hy
        obtain ⟨l1, HL1⟩ : ∃ l1, Hid (xs.length = l1) := ⟨_, hid rfl⟩
        obtain ⟨l2, HL2⟩ : ∃ l2, Hid (ys.length = l2) := ⟨_, hid rfl⟩
        have KX := hid kx2
        have KY := hid ky2
        clear kx2 ky2
        rw [HL1.out] at hcx hl1 HIX kx1
        rw [HL2.out] at hcy hl2 HIY ky1
        have hb1s : b1 < w2.heap.size := Nat.lt_of_lt_of_le hb1 HS2.out.below.size
        have hk0 : w2.cell? ⟨w.heap.size, 0, none⟩ = some (.int .i64 nm) := by rw [cells_at HS2.out.box]; rfl
        have hk1 : w2.cell? ⟨w.heap.size, 1, none⟩ = some (.slice (some ⟨b1, off, none⟩) n cap) := by rw [cells_at HS2.out.box]; rfl
        have HIXd : Hid (Ints w2.drew w2.drew.heap.size A3 l1 xs) := hid (HIX.out.below (below_drew1' _ _))
        have HIYd : Hid (Ints w2.drew w2.drew.heap.size A4 l2 ys) := hid (HIY.out.below (below_drew1' _ _))
        obtain ⟨r, HRB⟩ : ∃ r, Hid (resB xs ys v = r) := ⟨_, hid rfl⟩
        obtain ⟨z, HZ⟩ : ∃ z, Hid (nrm (wo xs v ++ wo ys (-v)) = z) := ⟨_, hid rfl⟩
        have HRes2 := hid (HRes.out xs ys l1 l2 A3 A4 c3 c4 w2.drew HIXd.out HIYd.out (by omega) (by omega))
        rw [HRB.out, HZ.out] at HRes2
        have HCX := hid hcx
        have HCY := hid hcy
        clear hx hy hix hiy
        go_wp2_with fail
        go_region_held3 (fun W => W.cell? ⟨w.heap.size, 0, none⟩ = some (.int .i64 nm) ∧ W.cell? ⟨w.heap.size, 1, none⟩ = some (.slice (some ⟨b1, off, none⟩) n cap) ∧ W.cell? ⟨b1, off + p, none⟩ = some (.slice A3 l1 c3) ∧ W.cell? ⟨b1, off + q, none⟩ = some (.slice A4 l2 c4))
          (first | exact ⟨hk0, hk1, hcx, hcy⟩ | exact ⟨hj0, hj1, hjx, hjy⟩)
          (first
            | (go_at_call 25; go_must (refine HRes2.out.mono ?_); rintro e w3 ⟨A5, l5, c5, rfl, HI5, HCap5, HB5⟩
               have HS3 := hid ((HS2.out.later (below_drew1 w2)).later HB5.out)
               have hj0 : w3.cell? ⟨w.heap.size, 0, none⟩ = some (.int .i64 nm) := by rw [cells_at HS3.out.box]; rfl
               have hj1 : w3.cell? ⟨w.heap.size, 1, none⟩ = some (.slice (some ⟨b1, off, none⟩) n cap) := by rw [cells_at HS3.out.box]; rfl
               have hjx : w3.cell? ⟨b1, off + p, none⟩ = some (.slice A3 l1 c3) := (HB5.out.cell (p := ⟨b1, off + p, none⟩) hb1s).trans HCX.out
               have hjy : w3.cell? ⟨b1, off + q, none⟩ = some (.slice A4 l2 c4) := (HB5.out.cell (p := ⟨b1, off + q, none⟩) hb1s).trans HCY.out))
        clear hk0 hk1 hcx hcy
        have n0 := World.new_ne w3 _ hj0
        have n1 := World.new_ne w3 _ hj1
        have nx := World.new_ne w3 _ hjx
        have ny := World.new_ne w3 _ hjy
        go_upto_region 5 with fail
        go_cut [15] from 72 to 85 (fun s15 wx => ∃ F S, s15 = .pointer (some ⟨F, 0, none⟩) ∧ Hid (TwoOne w3 wx nm (.slice A3 l1 c3) (.slice A4 l2 c4) F S))
        case first =>
          go_region_held3 (fun W => W.cell? ⟨w.heap.size, 0, none⟩ = some (.int .i64 nm) ∧ W.cell? ⟨w.heap.size, 1, none⟩ = some (.slice (some ⟨b1, off, none⟩) n cap) ∧ W.cell? ⟨b1, off + p, none⟩ = some (.slice A3 l1 c3) ∧ W.cell? ⟨b1, off + q, none⟩ = some (.slice A4 l2 c4))
            (first | exact ⟨hj0, hj1, hjx, hjy⟩ | go_keep) (fail)
          all_goals
            go_wp2_with fail
            go_meet
            first
              | exact ⟨_, _, rfl, hid (two_a w3 nm (.slice A3 l1 c3) (.slice A4 l2 c4))⟩
              | exact ⟨_, _, rfl, hid (two_b w3 nm (.slice A3 l1 c3) (.slice A4 l2 c4))⟩
        case rest =>
          obtain ⟨F, S, rfl, HTW⟩ := hcut
          clear hj0 hj1 hjx hjy n0 n1 nx ny
          have hf := cells_at HTW.out.f
          have HS4 := hid (HS3.out.later HTW.out.below)
          cases r
          case false =>
            go_wp2_with fail
            go_meet
            exact HS4
          case true =>
            have hz60 : l5 ≤ 200 := by
              have h1 := HI5.out.len
              have h2 := nrm_len (wo xs v ++ wo ys (-v))
              have h3 := wo_len xs v
              have h4 := wo_len ys (-v)
              have h5 := HL1.out
              have h6 := HL2.out
              rw [List.length_append, HZ.out] at h2
              simp at h1
              omega
            have HSh := hid (short2 (xs := xs) (ys := ys) (by have := HL1.out; omega) (by have := HL2.out; omega))
            have HIZ : Hid (Ints w3 w3.heap.size A5 l5 z) := HI5
            have HShz := hid (short1 (xs := z) (by have := HIZ.out.len; omega))
            have HBw := hid (HB5.out)
            have HE1 := hid (fun W (q : TwoOne w3 W nm (.slice A3 l1 c3) (.slice A4 l2 c4) F S) => eval_i nm [xs, ys] m (some ⟨S, 0, none⟩) A2 2 2 nm cap2 W.heap.size W (Nat.le_refl _)
              (two_list q.s (isInts_mk (((HIXd.out.below HB5.out).below (q.below.mono HB5.out.size)).more (Nat.le_trans HB5.out.size q.below.size)) kx1 KX.out) (isInts_mk (((HIYd.out.below HB5.out).below (q.below.mono HB5.out.size)).more (Nat.le_trans HB5.out.size q.below.size)) ky1 KY.out))
              ((HS3.out.m.below (q.below.mono HS3.out.below.size)).more (Nat.le_trans HS3.out.below.size q.below.size)) (by omega) (by omega) HSh.out)
            have HE2 := hid (fun W (q : Below w3.heap.size w3 W) => eval_i nm [z] m (some ⟨W.heap.size, 0, none⟩) A2 1 1 nm cap2 (W.alloc (.cells #[.slice A5 l5 c5] 40)).heap.size (W.alloc (.cells #[.slice A5 l5 c5] 40)) (Nat.le_refl _)
              (one_list (heap_alloc_new W (.cells #[.slice A5 l5 c5] 40)) (isInts_mk (((HIZ.out.below q).below ((below1 _ _).mono q.size)).more (Nat.le_trans q.size (by simp))) HCap5.out.1 HCap5.out.2))
              ((((HS3.out.m.below (q.mono HS3.out.below.size)).below ((below1 _ _).mono (Nat.le_trans HS3.out.below.size q.size)))).more (Nat.le_trans (Nat.le_trans HS3.out.below.size q.size) (by simp))) (by omega) (by omega) HShz.out)
            cases et : evalF nm [xs, ys] m
            case false =>
              rw [et] at HE1
              clear et
              go_wp2_with (go_at_call 12; go_must (refine (HE1.out _ HTW.out).mono ?_); rintro e w5 ⟨rfl, HB6⟩)
              go_meet
              exact hid (HS4.out.later HB6.out)
            case true =>
              have et2 := res_sound (res_1 HRB.out) et
              rw [HZ.out] at et2
              rw [et] at HE1
              rw [et2] at HE2
              clear et et2
              have F1 : True := trivial
              go_wp2_with (first
                | (go_at_call 12; have tok := F1; clear F1; go_must (refine (HE1.out _ HTW.out).mono ?_); rintro e w5 ⟨rfl, HB6⟩; have HS5 := hid (HS4.out.later HB6.out); have hx5 := cells_at HS5.out.box; have HW5 := hid (HTW.out.below.trans (HB6.out.mono HTW.out.below.size)))
                | (go_at_call 12; go_must (refine (HE2.out _ HW5.out).mono ?_); rintro e w6 ⟨rfl, HB7⟩))
              go_meet
              exact hid ((HS5.out.later (below1 _ _)).later HB7.out)
    case rest =>
      have HS3 := hid hcut.out
      have hx3 := cells_at HS3.out.box
      clear hcut HRes
      have hwn : IntKind.i64.wrap (-(nm : Int)) = -(nm : Int) := by rw [IntKind.wrap_i64]; omega
      cases e0 : (x == 0)
      case true =>
        go_wp2_with (go_at_call 8; refine (alive_i _).mono ?_; rintro e w9 ⟨rfl, HB9⟩)
        go_ret
        exact ⟨rfl, hid (HS3.out.later HB9.out).below⟩
      case false =>
        have hx0 : ¬ x = 0 := by simpa using e0
        by_cases e1 : (nm : Int) < x
        · go_wp2_with (go_at_call 8; refine (alive_i _).mono ?_; rintro e w9 ⟨rfl, HB9⟩)
          go_ret
          exact ⟨rfl, hid (HS3.out.later HB9.out).below⟩
        · by_cases e2 : x < -(nm : Int)
          · go_wp2_with (go_at_call 8; refine (alive_i _).mono ?_; rintro e w9 ⟨rfl, HB9⟩)
            go_ret
            exact ⟨rfl, hid (HS3.out.later HB9.out).below⟩
          · have hlx : lit nm x = true := by simp [lit, hx0]; omega
            have HTr := hid (fun W (q : Snd w W nm A n cap ls A2 nm m) => true_i x m A2 nm cap2 w.heap.size W q.m (by omega) hlx)
            cases et : tr m x
            case false =>
              rw [et] at HTr
              clear hlx et
              go_wp2_with (first
                | (go_at_call 26; go_must (refine (HTr.out _ HS3.out).mono ?_); rintro e w8 ⟨rfl, hw8⟩; obtain rfl := hw8.symm; clear hw8)
                | (go_at_call 8; refine (alive_i _).mono ?_; rintro e w9 ⟨rfl, HB9⟩))
              go_ret
              exact ⟨rfl, hid (HS3.out.later HB9.out).below⟩
            case true =>
              have HEq := hid (giv_sound HRF.out hx0 et)
              have HGv := hid (fun W (q : Snd w W nm A n cap ls A2 nm m) => given_i nm x ls A n cap w.heap.size W q.below.size q.ls (by omega) HLS.out.1)
              have hgf : givenF nm ls x = givL x ls := by unfold givenF; rw [if_pos ⟨HRF.out, hlx⟩]
              have HE1 := hid (fun W (q : Snd w W nm A n cap ls A2 nm m) => eval_i nm ls m A A2 n cap nm cap2 w.heap.size W q.below.size q.ls q.m (by omega) (by omega) HLS.out.1)
              have HE2 := hid (fun W (B9 : Option Addr) (n9 c9 base : Nat) (q : Snd w W nm A n cap ls A2 nm m) (ho : OwnL W base B9 n9 c9 (givL x ls)) (hn9 : n9 ≤ 200000) => eval_i nm (givL x ls) m B9 A2 n9 c9 nm cap2 W.heap.size W (Nat.le_refl _) ho.lists (q.m.more q.below.size) hn9 (by omega) (givL_short HLS.out.1))
              have HGL := hid (givL_len x ls)
              rw [et] at HTr
              rw [hgf] at HGv
              obtain ⟨t, HT⟩ : ∃ t, Hid (evalF nm ls m = t) := ⟨_, hid rfl⟩
              rw [HT.out] at HE1 HEq
              rw [HEq.out] at HE2
              clear hlx et hgf
              go_wp2_with (go_at_call 26; go_must (refine (HTr.out _ HS3.out).mono ?_); rintro e w8 ⟨rfl, hw8⟩; obtain rfl := hw8.symm; clear hw8)
              have HT0 := hid (HS3.out.later (below_drew1 wc))
              go_region_held3 (fun W => Hid (Snd w W nm A n cap ls A2 nm m) ∧ ∀ i, W.cell? ⟨w.heap.size, i, none⟩ = (#[.int .i64 nm, .slice A n cap] : Array Value)[i]?)
                (first | exact ⟨HT0, cells_at HT0.out.box⟩ | exact ⟨HT1, cells_at HT1.out.box⟩ | exact ⟨HT2, cells_at HT2.out.box⟩ | exact ⟨HT3, cells_at HT3.out.box⟩ | exact ⟨HT4, cells_at HT4.out.box⟩ | exact ⟨HT5, cells_at HT5.out.box⟩ | exact ⟨HT6, cells_at HT6.out.box⟩)
                (first
                  | (go_at_call 10; have tok := HT0; clear HT0; go_must (refine (own_i _ _ _ _ _).mono ?_); rintro e v1 ⟨rfl, hb⟩; have HT1 := hid (tok.out.later hb.out); clear hb tok)
                  | (go_at_call 12; have tok := HT1; clear HT1; go_must (refine (HE1.out _ tok.out).mono ?_); rintro e v2 ⟨rfl, hb⟩; have HT2 := hid (tok.out.later hb.out); clear hb tok)
                  | (go_at_call 10; have tok := HT2; clear HT2; go_must (refine (own_i _ _ _ _ _).mono ?_); rintro e v3 ⟨rfl, hb⟩; have HT3 := hid (tok.out.later hb.out); clear hb tok)
                  | (go_at_call 15; have tok := HT3; clear HT3; go_must (refine (HGv.out _ tok.out).mono ?_); rintro e v4 ⟨B9, n9, c9, rfl, HO9, hb⟩; have HT4 := hid (tok.out.later hb.out); have hn9 : n9 ≤ 200000 := (by have h1 := HO9.out.len; have h2 := HGL.out; have h3 := HN.out; omega); clear hb tok)
                  | (go_at_call 12; have tok := HT4; clear HT4; go_must (refine (HE2.out _ _ _ _ _ tok.out HO9.out hn9).mono ?_); rintro e v5 ⟨rfl, hb⟩; have HT5 := hid (tok.out.later hb.out); clear hb tok)
                  | (go_at_call 8; have tok := HT5; clear HT5; go_must (refine (alive_i _).mono ?_); rintro e v6 ⟨rfl, hb⟩; have HT6 := hid (tok.out.later hb.out); clear hb tok))
              go_wp2
              go_ret
              exact ⟨rfl, hid HT6.out.below⟩
end Go.Proofs.Ytkmcdbkdlalhdaa
