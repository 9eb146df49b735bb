/- Straight code of sums: its instructions in memory, and who is asked. No conditions. -/
import Derived.Test.YtlbcinanpnjjjaaLvI
import Derived.Test.YtlbcinanpnjjjaaLvK
import Derived.StillTailTactics
namespace Go.Proofs.Ytlbcinanpnjjjaa
open Go.RowKit Go.Maps
set_option linter.unusedVariables false
set_option linter.unusedSimpArgs false
structure TrD where
  (d a b : Int)
abbrev TrV (t : TrD) : Array Value := #[.int .i64 t.d, .int .i64 t.a, .int .i64 t.b]
def TrAt (W : World) (b o : Nat) (t : TrD) : Prop := CellsAt W b o (TrV t)
theorem tr_stays : Stays TrAt := fun W W' b o x hb hlt h => cells_stay hb hlt h
abbrev binI (t : TrD) : InD := ⟨4, t.d, t.a, t.b, 0, 0, 0, 0, 0, 0, ⟨#[43]⟩, [], []⟩
abbrev retI (q : Int) : InD := ⟨18, 0, q, 0, 0, 0, 0, 0, 0, 0, ⟨#[]⟩, [], []⟩
abbrev inF (r : InD) : List Value := (InV r none 0 none 0).toList
theorem inF_len (r : InD) : (inF r).length = 13 := rfl
abbrev vs8 : List VaD := [exVa, exVa, exVa, exVa, exVa, exVa, exVa, exVa]
/-- The code of these instructions, with 8 variables. -/
abbrev stC (L : List InD) : CoD := ⟨⟨#[]⟩, 0, vs8, exVa, [], L⟩
theorem inrow_owns {W : World} {base n c : Nat} {A : Option Addr} {L : List InD} (h : W.ownsRow base 45 13 (.slice A n c) n (L.flatMap inF)) (hL : L.length = n) (hn : n ≤ 1000) (hx : ∀ r ∈ L, r.xs = [] ∧ r.ms = []) : RowM 13 InAt W A L := by
  refine ⟨by omega, fun i r hr => ?_⟩
  have hil := (List.getElem?_eq_some_iff.1 hr).1
  obtain ⟨g, cap, e, hg, hb, hc⟩ := row_cells h (by omega)
  injection e with e1 e2 e3
  obtain ⟨h1, h2⟩ := hx r (List.mem_of_getElem? hr)
  have nil : ∀ l : List Int, l = [] → IntsM W none l := fun l hl => by subst hl; exact ⟨by simp, fun a b hab => by simp at hab⟩
  refine ⟨g, 0, e1, hg, none, 0, none, 0, fun j v hv => ?_, nil _ h1, nil _ h2⟩
  rw [Nat.zero_add]
  refine hc _ _ (flat_get inF_len hr ?_)
  rw [← hv]
  simp
theorem bins_plain {l : List TrD} {q : Int} : ∀ r ∈ l.map binI ++ [retI q], r.xs = [] ∧ r.ms = [] := fun r hr => by
  rcases List.mem_append.1 hr with hr | hr
  · obtain ⟨t, -, rfl⟩ := List.mem_map.1 hr
    exact ⟨rfl, rfl⟩
  · rw [List.mem_singleton] at hr
    subst hr
    exact ⟨rfl, rfl⟩
/-- The straight code. -/
abbrev stX (l : List TrD) (q : Int) : CoD := stC (l.map binI ++ [retI q])
theorem stX_len (l : List TrD) (q : Int) : (stX l q).ins.length = l.length + 1 := by simp
theorem st_get {l : List TrD} {q : Int} {i : Nat} {t : TrD} (h : l[i]? = some t) : (stX l q).ins[i]? = some (binI t) := by
  show (l.map binI ++ [retI q])[i]? = _
  rw [List.getElem?_append_left (by simp; exact (List.getElem?_eq_some_iff.1 h).1), List.getElem?_map, h]
  rfl
theorem st_last (l : List TrD) (q : Int) : (stX l q).ins[l.length]? = some (retI q) := by
  show (l.map binI ++ [retI q])[l.length]? = _
  rw [List.getElem?_append_right (by simp)]
  simp
theorem st_nx {l : List TrD} {q : Int} {i : Nat} {t : TrD} (h : l[i]? = some t) : nxE (stX l q) i = [i + 1] := by
  have hi := (List.getElem?_eq_some_iff.1 h).1
  have hx : nextL (binI t) (i : Int) = [(i : Int) + 1] := nextL_else (by decide) (by decide) (by decide)
  have hf : inN (l.length + 1) ((i : Int) + 1) = true := inN_t (by omega) (by omega)
  unfold nxE edgesL
  rw [st_get h, stX_len]
  simp only [hx]
  rw [List.filter_cons, if_pos hf]
  have ht : ((i : Int) + 1).toNat = i + 1 := by omega
  simp [ht]
theorem st_nx0 (l : List TrD) (q : Int) : nxE (stX l q) l.length = [] := by
  unfold nxE edgesL
  rw [st_last]
  simp [nextL]
/-- All is below 8. -/
def In8 (l : List TrD) : Prop := ∀ t ∈ l, (0 ≤ t.d ∧ t.d ≤ 7) ∧ (0 ≤ t.a ∧ t.a ≤ 7) ∧ (0 ≤ t.b ∧ t.b ≤ 7)
theorem st_fits {l : List TrD} {q : Int} (h : In8 l) (hq : 0 ≤ q ∧ q ≤ 7) : Fits (stX l q) := by
  intro r hr
  have h8 : ∀ y : Int, 0 ≤ y ∧ y ≤ 7 → inN (stX l q).vs.length y = true := fun y hy => inN_t (n := 8) (by omega) (by omega)
  rcases List.mem_append.1 hr with hr | hr
  · obtain ⟨t, ht, rfl⟩ := List.mem_map.1 hr
    obtain ⟨h1, h2, h3⟩ := h t ht
    refine ⟨by simp, fun y hy => ?_, fun _ => h8 _ h1⟩
    have : y ∈ [t.a, t.b] := hy
    simp at this
    rcases this with rfl | rfl
    · exact h8 _ h2
    · exact h8 _ h3
  · rw [List.mem_singleton] at hr
    subst hr
    refine ⟨by simp, fun y hy => ?_, fun hw => ?_⟩
    · have : y ∈ [q] := hy
      rw [List.mem_singleton] at this
      subst this
      exact h8 _ hq
    · have : wrB 18 = false := by decide
      rw [show (retI q).op = 18 from rfl, this] at hw
      cases hw
/-- Who is asked behind i, by its next one. -/
theorem st_behind {l : List TrD} {q : Int} {i v : Nat} {t : TrD} (h : l[i]? = some t) : AskB (stX l q) i v ↔ Ask (stX l q) (i + 1) v := askB_one (st_nx h)
theorem st_ask {l : List TrD} {q : Int} {i v : Nat} {t : TrD} (h : l[i]? = some t) : Ask (stX l q) i v ↔ (t.a = (v : Int) ∨ t.b = (v : Int) ∨ (AskB (stX l q) i v ∧ t.d ≠ (v : Int))) := by
  rw [ask_iff]
  have h1 : rdV (stX l q) i v = true ↔ (t.a = (v : Int) ∨ t.b = (v : Int)) := by
    unfold rdV
    rw [st_get h]
    have : ([t.a, t.b] : List Int).any (fun y => y == (v : Int)) = true ↔ (t.a = (v : Int) ∨ t.b = (v : Int)) := by simp
    exact this
  have h2 : wrV (stX l q) i v = false ↔ t.d ≠ (v : Int) := by
    unfold wrV
    rw [st_get h]
    have : (t.d == (v : Int)) = false ↔ t.d ≠ (v : Int) := by simp
    exact this
  rw [h1, h2]
  constructor
  · rintro ((h | h) | h)
    · exact .inl h
    · exact .inr (.inl h)
    · exact .inr (.inr h)
  · rintro (h | h | h)
    · exact .inl (.inl h)
    · exact .inl (.inr h)
    · exact .inr h
theorem st_none (l : List TrD) (q : Int) (v : Nat) : ¬ AskB (stX l q) l.length v := askB_none (st_nx0 l q)
theorem st_asklast (l : List TrD) (q : Int) (v : Nat) : Ask (stX l q) l.length v ↔ q = (v : Int) := by
  rw [ask_iff]
  have h1 : rdV (stX l q) l.length v = true ↔ q = (v : Int) := by
    unfold rdV
    rw [st_last]
    have : ([q] : List Int).any (fun y => y == (v : Int)) = true ↔ q = (v : Int) := by simp
    exact this
  rw [h1]
  constructor
  · rintro (h | ⟨h, -⟩)
    · exact h
    · exact absurd h (st_none l q v)
  · exact .inl
theorem info45 : (Try.prog.info? 45).map (fun i => (i.zero, i.size, i.bytes)) = some (some (.agg #[.int .i64 0, .int .i64 0, .int .i64 0, .int .i64 0, .int .i64 0, .int .i64 0, .string ⟨#[]⟩, .slice none 0 0, .slice none 0 0, .int .i64 0, .int .i64 0, .int .i64 0, .int .i64 0]), 13, 144) := by kernel_rfl
end Go.Proofs.Ytlbcinanpnjjjaa
