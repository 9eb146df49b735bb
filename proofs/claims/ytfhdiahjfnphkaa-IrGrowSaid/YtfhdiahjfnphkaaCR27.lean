/- Who judges an operation. No conditions. -/
import Derived.Test.YtfhdiahjfnphkaaCR11
import Derived.Test.YtfhdiahjfnphkaaCR25
import Derived.Test.YtfhdiahjfnphkaaCR26
import Derived.Test.YtfhdiahjfnphkaaCR09
namespace Go.Proofs.Ytfhdiahjfnphkaa
open Go.RowKit Go.Maps
set_option linter.unusedVariables false
set_option linter.unusedSimpArgs false
def askN (op : Int) : Nat := if op = 1 then 58 else if op = 2 then 59 else if op = 3 then 60 else if op = 4 then 60 else if op = 5 then 58 else if op = 6 then 61 else if op = 7 then 62 else if op = 8 then 63 else if op = 9 then 64 else if op = 10 then 62 else if op = 11 then 63 else if op = 12 then 65 else if op = 13 then 66 else if op = 14 then 67 else if op = 15 then 68 else if op = 16 then 69 else if op = 17 then 61 else if op = 18 then 70 else 71
set_option maxRecDepth 100000 in
set_option maxHeartbeats 8000000 in
theorem asks_g (op : Int) (J : Nat) (w : World) : Calls Try.prog 50 #[.pointer (some ⟨J, 0, none⟩), .int .i64 op] w fun e w' => e = .returned (.func (.func (askN op)) #[.pointer (some ⟨J, 0, none⟩)] #[]) ∧ w' = w := by
  by_cases h1 : op = 1
  · subst h1
    rw [show askN 1 = 58 from rfl]
    go_enter Try.func50, Try.ntmps50
    go_wp2
    go_ret
    exact ⟨rfl, rfl⟩
  by_cases h2 : op = 2
  · subst h2
    rw [show askN 2 = 59 from rfl]
    go_enter Try.func50, Try.ntmps50
    go_wp2
    go_ret
    exact ⟨rfl, rfl⟩
  by_cases h3 : op = 3
  · subst h3
    rw [show askN 3 = 60 from rfl]
    go_enter Try.func50, Try.ntmps50
    go_wp2
    go_ret
    exact ⟨rfl, rfl⟩
  by_cases h4 : op = 4
  · subst h4
    rw [show askN 4 = 60 from rfl]
    go_enter Try.func50, Try.ntmps50
    go_wp2
    go_ret
    exact ⟨rfl, rfl⟩
  by_cases h5 : op = 5
  · subst h5
    rw [show askN 5 = 58 from rfl]
    go_enter Try.func50, Try.ntmps50
    go_wp2
    go_ret
    exact ⟨rfl, rfl⟩
  by_cases h6 : op = 6
  · subst h6
    rw [show askN 6 = 61 from rfl]
    go_enter Try.func50, Try.ntmps50
    go_wp2
    go_ret
    exact ⟨rfl, rfl⟩
  by_cases h7 : op = 7
  · subst h7
    rw [show askN 7 = 62 from rfl]
    go_enter Try.func50, Try.ntmps50
    go_wp2
    go_ret
    exact ⟨rfl, rfl⟩
  by_cases h8 : op = 8
  · subst h8
    rw [show askN 8 = 63 from rfl]
    go_enter Try.func50, Try.ntmps50
    go_wp2
    go_ret
    exact ⟨rfl, rfl⟩
  by_cases h9 : op = 9
  · subst h9
    rw [show askN 9 = 64 from rfl]
    go_enter Try.func50, Try.ntmps50
    go_wp2
    go_ret
    exact ⟨rfl, rfl⟩
  by_cases h10 : op = 10
  · subst h10
    rw [show askN 10 = 62 from rfl]
    go_enter Try.func50, Try.ntmps50
    go_wp2
    go_ret
    exact ⟨rfl, rfl⟩
  by_cases h11 : op = 11
  · subst h11
    rw [show askN 11 = 63 from rfl]
    go_enter Try.func50, Try.ntmps50
    go_wp2
    go_ret
    exact ⟨rfl, rfl⟩
  by_cases h12 : op = 12
  · subst h12
    rw [show askN 12 = 65 from rfl]
    go_enter Try.func50, Try.ntmps50
    go_wp2
    go_ret
    exact ⟨rfl, rfl⟩
  by_cases h13 : op = 13
  · subst h13
    rw [show askN 13 = 66 from rfl]
    go_enter Try.func50, Try.ntmps50
    go_wp2
    go_ret
    exact ⟨rfl, rfl⟩
  by_cases h14 : op = 14
  · subst h14
    rw [show askN 14 = 67 from rfl]
    go_enter Try.func50, Try.ntmps50
    go_wp2
    go_ret
    exact ⟨rfl, rfl⟩
  by_cases h15 : op = 15
  · subst h15
    rw [show askN 15 = 68 from rfl]
    go_enter Try.func50, Try.ntmps50
    go_wp2
    go_ret
    exact ⟨rfl, rfl⟩
  by_cases h16 : op = 16
  · subst h16
    rw [show askN 16 = 69 from rfl]
    go_enter Try.func50, Try.ntmps50
    go_wp2
    go_ret
    exact ⟨rfl, rfl⟩
  by_cases h17 : op = 17
  · subst h17
    rw [show askN 17 = 61 from rfl]
    go_enter Try.func50, Try.ntmps50
    go_wp2
    go_ret
    exact ⟨rfl, rfl⟩
  by_cases h18 : op = 18
  · subst h18
    rw [show askN 18 = 70 from rfl]
    go_enter Try.func50, Try.ntmps50
    go_wp2
    go_ret
    exact ⟨rfl, rfl⟩
  rw [show askN op = 71 from by simp only [askN, if_neg h1, if_neg h2, if_neg h3, if_neg h4, if_neg h5, if_neg h6, if_neg h7, if_neg h8, if_neg h9, if_neg h10, if_neg h11, if_neg h12, if_neg h13, if_neg h14, if_neg h15, if_neg h16, if_neg h17, if_neg h18]]
  go_enter Try.func50, Try.ntmps50
  go_wp2
  go_ret
  exact ⟨rfl, rfl⟩
end Go.Proofs.Ytfhdiahjfnphkaa
/- A method of a judge, by its operation; what is wrong with a function. No conditions. -/
namespace Go.Proofs.Ytfhdiahjfnphkaa
open Go.RowKit Go.Maps
set_option linter.unusedVariables false
set_option linter.unusedSimpArgs false
theorem op_all (op : Int) : op = 1 ∨ op = 2 ∨ op = 3 ∨ op = 4 ∨ op = 5 ∨ op = 6 ∨ op = 7 ∨ op = 8 ∨ op = 9 ∨ op = 10 ∨ op = 11 ∨ op = 12 ∨ op = 13 ∨ op = 14 ∨ op = 15 ∨ op = 16 ∨ op = 17 ∨ op = 18 ∨ (op < 1 ∨ 18 < op) := by omega
theorem askN_else {op : Int} (h : op < 1 ∨ 18 < op) : askN op = 71 := by
  simp only [askN]
  repeat rw [if_neg (by omega)]
theorem asks_at (op : Int) (N : Nat) (J : Nat) (w : World) (h : askN op = N) : Calls Try.prog 50 #[.pointer (some ⟨J, 0, none⟩), .int .i64 op] w fun e w' => e = .returned (.func (.func N) #[.pointer (some ⟨J, 0, none⟩)] #[]) ∧ w' = w := h ▸ asks_g op J w
/-- The method that an operation asks tells its fault. -/
theorem meth_g (p : JP) (J : Nat) (r : InD) (ao mo : Option Addr) (ac mc : Nat) (w : World) (hj : JG w J p) (hk : KO p) (hX : IntsM w ao r.xs) :
    Calls Try.prog (askN r.op) #[.pointer (some ⟨J, 0, none⟩), .agg (InV r ao ac mo mc)] w fun e w' => e = .returned (.int .i64 (jF p.ss p.cs p.x r)) ∧ Hid (Below w.heap.size w w') := by
  obtain ⟨op, d, a, b, tt, el, f, n, l, c, sg, xs, ms⟩ := r
  rcases op_all op with rfl | rfl | rfl | rfl | rfl | rfl | rfl | rfl | rfl | rfl | rfl | rfl | rfl | rfl | rfl | rfl | rfl | rfl | h
  · exact number_g p J _ ao mo ac mc w hj
  · exact null_g p J _ ao mo ac mc w hj
  · exact numbers_g p J _ ao mo ac mc w hj (.inl rfl)
  · exact numbers_g p J _ ao mo ac mc w hj (.inr rfl)
  · exact number_g p J _ ao mo ac mc w hj
  · exact asked_g p J _ ao mo ac mc w hj
  · exact load_g p J _ ao mo ac mc w hj hk
  · exact store_g p J _ ao mo ac mc w hj hk
  · exact give_g p J _ ao mo ac mc w hj
  · exact load_g p J _ ao mo ac mc w hj hk
  · exact store_g p J _ ao mo ac mc w hj hk
  · exact cell_g p J _ ao mo ac mc w hj
  · exact free_g p J _ ao mo ac mc w hj
  · exact isnull_g p J _ ao mo ac mc w hj
  · exact callj_g p J _ ao mo ac mc w hj hX
  · exact jump_g p J _ ao mo ac mc w hj
  · exact asked_g p J _ ao mo ac mc w hj
  · exact retj_g p J _ ao mo ac mc w hj
  · rw [show askN op = 71 from askN_else h, show jF p.ss p.cs p.x ⟨op, d, a, b, tt, el, f, n, l, c, sg, xs, ms⟩ = 3 by (simp only [jF]; repeat rw [if_neg (by omega)])]
    exact none_i _ _ ao mo ac mc w
theorem meth_at (N : Nat) (p : JP) (J : Nat) (r : InD) (ao mo : Option Addr) (ac mc : Nat) (w : World) (z : Int) (hn : askN r.op = N) (hz : jF p.ss p.cs p.x r = z) (hj : JG w J p) (hk : KO p) (hX : IntsM w ao r.xs) :
    Calls Try.prog N #[.pointer (some ⟨J, 0, none⟩), .agg (InV r ao ac mo mc)] w fun e w' => e = .returned (.int .i64 z) ∧ Hid (Below w.heap.size w w') := by
  subst hn
  subst hz
  exact meth_g p J r ao mo ac mc w hj hk hX
def firstJ (ss : List StD) (cs : List CoD) (c : CoD) : List InD → Int
  | [] => 0
  | r :: l => if jF ss cs c r = 0 then firstJ ss cs c l else jF ss cs c r
def lastOp (l : List InD) : Int := match l.getLast? with | some r => r.op | none => 0
/-- What is wrong with a function. -/
def codF (ss : List StD) (cs : List CoD) (c : CoD) : Int :=
  if 300 < c.vs.length ∨ c.ins.length = 0 ∨ 3000 < c.ins.length then 2
  else if c.pr < 0 ∨ (c.vs.length : Int) < c.pr then 15
  else if firstJ ss cs c c.ins = 0 then (if lastOp c.ins < 16 then 15 else 0) else firstJ ss cs c c.ins
theorem first_at {ss : List StD} {cs : List CoD} {c : CoD} : ∀ {l : List InD} {k : Nat} {r : InD}, l[k]? = some r → (∀ i u, i < k → l[i]? = some u → jF ss cs c u = 0) → ¬ jF ss cs c r = 0 → firstJ ss cs c l = jF ss cs c r
  | [], _, _, h, _, _ => by simp at h
  | a :: l, 0, r, h, _, h0 => by
    simp at h
    subst h
    rw [firstJ, if_neg h0]
  | a :: l, k + 1, r, h, hh, h0 => by
    rw [firstJ, if_pos (hh 0 a (by omega) rfl)]
    exact first_at (by simpa using h) (fun i u hi hu => hh (i + 1) u (by omega) (by simpa using hu)) h0
theorem first_none {ss : List StD} {cs : List CoD} {c : CoD} : ∀ {l : List InD}, (∀ (i : Nat) u, i < l.length → l[i]? = some u → jF ss cs c u = 0) → firstJ ss cs c l = 0
  | [], _ => rfl
  | a :: l, hh => by
    rw [firstJ, if_pos (hh 0 a (by simp) rfl)]
    exact first_none (fun i u hi hu => hh (i + 1) u (by simp; omega) (by simpa using hu))
theorem jF_op {ss : List StD} {cs : List CoD} {c : CoD} {r : InD} (h : jF ss cs c r = 0) : 1 ≤ r.op ∧ r.op ≤ 18 := by
  rcases Int.lt_or_le r.op 1 with h1 | h1
  · rw [show jF ss cs c r = 3 by (simp only [jF]; repeat rw [if_neg (by omega)])] at h
    cases h
  rcases Int.lt_or_le 18 r.op with h2 | h2
  · rw [show jF ss cs c r = 3 by (simp only [jF]; repeat rw [if_neg (by omega)])] at h
    cases h
  exact ⟨h1, h2⟩
theorem last_at {l : List InD} {m : Nat} {r : InD} (hl : l.length = m + 1) (h : l[m]? = some r) : lastOp l = r.op := by
  rw [lastOp, List.getLast?_eq_getElem?, hl, Nat.add_sub_cancel, h]
end Go.Proofs.Ytfhdiahjfnphkaa
