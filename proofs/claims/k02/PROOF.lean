import PyProof.Rows.All
import Wide.All
import OpenK.AllK
import Wide.FinOn
import HandS.ForMost
import HandS.IsInst
import HandS.EndBits
import HandS.Codes
import PySem.Challenge.RW_splitheap_k02_most_work
set_option Elab.async false
set_option linter.all false
set_option maxRecDepth 100000
set_option maxHeartbeats 4000000
namespace Sp
open PySem PySem.Spec L2
open PyProof.Rows (mul_int)
/-! ### small things -/
theorem ip_mul {X : Cx} : PIp X .Mult (fun x y H Q => ∃ i j, x = .int i ∧ y = .int j ∧ CMul i j ∧ Q (.int (i * j)) H) :=
  fun pins s σ H x y v u Q I r1 r2 h => iop_mul pins s σ H x y v u Q I r1 r2 h
theorem bits_le {x : Int} : Builtin.Int.intBits x ≤ x.natAbs.log2 + 1 := by
  unfold Builtin.Int.intBits
  split <;> omega
theorem bits_ge {x : Int} : x.natAbs.log2 ≤ Builtin.Int.intBits x := by
  unfold Builtin.Int.intBits
  split
  · rename_i h
    have e : x.natAbs = 0 := by
      first
        | exact Int.natAbs_eq_zero.mpr (by simpa using h)
        | (simp at h; exact Int.natAbs_eq_zero.mpr h)
        | omega
    rw [e]
    decide
  · omega
theorem log2_mono {a b : Nat} (h : a ≤ b) : a.log2 ≤ b.log2 := by
  by_cases ha : a = 0
  · subst ha
    have : Nat.log2 0 = 0 := by decide
    omega
  · have hb : b ≠ 0 := by omega
    exact (Nat.le_log2 hb).mpr (Nat.le_trans (Nat.log2_self_le ha) h)
theorem fdiv_abs (x : Int) {d : Int} (hd : 0 < d) : (x / d).natAbs ≤ x.natAbs := by
  by_cases hx : 0 ≤ x
  · have h3 : 0 ≤ x / d := Int.ediv_nonneg hx (by omega)
    have h4 : x / d ≤ x := Int.ediv_le_self d hx
    omega
  · have h3 : x / d < 0 := Int.ediv_neg_of_neg_of_pos (by omega) hd
    have h2 : x < (x / d + 1) * d := Int.lt_ediv_add_one_mul_self x hd
    have h4 : x ≤ x / d := by
      by_cases c : x ≤ x / d
      · exact c
      · exfalso
        have h8 : (x / d + 1) * d ≤ (x / d + 1) * 1 := Int.mul_le_mul_of_nonpos_left (by omega) (by omega)
        omega
    omega
/-- * of two factors of at most two million bits each -/
def CMulB (i j : Int) : Prop := Builtin.Int.intBits i ≤ 1048577 ∧ Builtin.Int.intBits j ≤ 1048577
theorem CMulB.ok {i j : Int} (h : CMulB i j) : IntMulOk i j := by
  have e : bitsLine = 134217728 := by decide
  unfold IntMulOk
  intro z
  rw [Bool.and_eq_true] at z
  have z2 := z.2
  unfold Builtin.Int.intTooBig at z2
  have z3 := of_decide_eq_true z2
  rw [e] at z3
  have := h.1
  have := h.2
  omega
theorem op_mulB {X : Cx} : OpR X (binaryOp .Mult) (rI CMulB fun i j => .int (i * j)) := opI fun _ _ _ _ _ _ _ hc q => mul_int q hc.ok
theorem bits_div {x d : Int} (hd : 0 < d) (h : Builtin.Int.intBits x ≤ 1048576) : Builtin.Int.intBits (x / d) ≤ 1048577 :=
  Nat.le_trans bits_le (Nat.succ_le_succ (Nat.le_trans (log2_mono (fdiv_abs x hd)) (Nat.le_trans bits_ge h)))
/-- // and % by a written number -/
def rModK (d : Int) : R2 := fun x y H Q => ∃ i, x = .int i ∧ y = .int d ∧ Q (.int (i % d)) H
def rDivK (d : Int) : R2 := fun x y H Q => ∃ i, x = .int i ∧ y = .int d ∧ Q (.int (i / d)) H
theorem op_modK {X : Cx} (d : Int) (hd : 0 < d) : OpR X (binaryOp .Mod) (rModK d) := fun pins s σ H x y v u Q I r1 r2 h => by
  obtain ⟨i, e1, e2, q⟩ := h
  exact op_mod pins s σ H x y v u Q I r1 r2 ⟨i, d, e1, e2, hd, q⟩
theorem op_fdivK {X : Cx} (d : Int) (hd : 0 < d ∧ d < 1073741824) : OpR X (binaryOp .FloorDiv) (rDivK d) := fun pins s σ H x y v u Q I r1 r2 h => by
  obtain ⟨i, e1, e2, q⟩ := h
  exact op_fdiv pins s σ H x y v u Q I r1 r2 ⟨i, d, e1, e2, hd, q⟩
/-- a test that holds, that does not -/
theorem q_yes {p : Prop} [Decidable p] {Q : VK} {H : Hp} (h : p) (q : Q (.bl true) H) : Q (.bl (decide p)) H := by
  rw [decide_eq_true h]
  exact q
theorem q_no {p : Prop} [Decidable p] {Q : VK} {H : Hp} (h : ¬ p) (q : Q (.bl false) H) : Q (.bl (decide p)) H := by
  rw [decide_eq_false h]
  exact q
theorem t_yes {p A B : Prop} [Decidable p] (h : p) (q : A) : if decide p = true then A else B := by
  rw [decide_eq_true h]
  exact iteT q
theorem t_no {p A B : Prop} [Decidable p] (h : ¬ p) (q : B) : if decide p = true then A else B := by
  rw [decide_eq_false h]
  exact iteF q
/-- both ways of a test -/
theorem t_2 {p A B : Prop} [Decidable p] (h1 : p → A) (h2 : ¬ p → B) : if decide p = true then A else B := by
  by_cases h : p
  · exact t_yes h (h1 h)
  · exact t_no h (h2 h)
theorem val_at {ns : List Int} {i : Nat} {y : V} (h : (ns.map V.int)[i]? = some y) : ∃ z, ns[i]? = some z ∧ y = V.int z := by
  rw [List.getElem?_map] at h
  cases e : ns[i]? with
  | none =>
    rw [e] at h
    cases h
  | some z =>
    rw [e] at h
    exact ⟨z, rfl, (Option.some.inj h).symm⟩
def topS (i : Nat) : Stmt := PySem.Challenge.pw_splitheap_k02_most_work.main.body.getD i (.Pass ⟨0, 0, 0, 0⟩)
abbrev s_levels : Stmt := topS 1
abbrev N_levels : List Str := ["number", "doublings", "doubled"]
theorem sc_levels : FnScope N_levels ["number"] (defScope s_levels) := ⟨rfl, rfl, rfl, by decide +kernel, rfl, by decide +kernel, by decide +kernel⟩
abbrev s_most_work : Stmt := topS 2
abbrev N_most_work : List Str := ["deed", "things", "others"]
theorem sc_most_work : FnScope N_most_work ["deed", "things", "others"] (defScope s_most_work) := ⟨rfl, rfl, rfl, by decide +kernel, rfl, by decide +kernel, by decide +kernel⟩
abbrev s_l_cell : Stmt := topS 4
abbrev N_l_cell : List Str := ["_law_script", "_law_k"]
theorem sc_l_cell : FnScope N_l_cell ["_law_script", "_law_k"] (defScope s_l_cell) := ⟨rfl, rfl, rfl, by decide +kernel, rfl, by decide +kernel, by decide +kernel⟩
abbrev s_l_levels : Stmt := topS 5
abbrev N_l_levels : List Str := ["_law_number_here", "_law_count", "_law_power"]
theorem sc_l_levels : FnScope N_l_levels ["_law_number_here"] (defScope s_l_levels) := ⟨rfl, rfl, rfl, by decide +kernel, rfl, by decide +kernel, by decide +kernel⟩
abbrev s_l_number : Stmt := topS 6
abbrev N_l_number : List Str := ["_law_cell_here"]
theorem sc_l_number : FnScope N_l_number ["_law_cell_here"] (defScope s_l_number) := ⟨rfl, rfl, rfl, by decide +kernel, rfl, by decide +kernel, by decide +kernel⟩
abbrev s_law : Stmt := topS 7
abbrev N_law : List Str := ["_law_script", "_law_things", "_law_others", "_law_pick", "_law_found", "_law_one", "_law_due"]
theorem sc_law : FnScope N_law ["_law_script"] (defScope s_law) := ⟨rfl, rfl, rfl, by decide +kernel, rfl, by decide +kernel, by decide +kernel⟩
/-- what stands behind the top -/
structure Txt (K : PySem.W.Frag) (mg : Str → Option Value) where
  a_levels : Addr
  d_levels : FuncData
  F_levels : Fun K "levels" "levels" s_levels a_levels d_levels
  b_levels : Binds K d_levels ["number"] []
  g_levels : mg "levels" = some (.ref a_levels)
  a_most_work : Addr
  d_most_work : FuncData
  F_most_work : Fun K "most_work" "most_work" s_most_work a_most_work d_most_work
  b_most_work : Binds K d_most_work ["deed", "things", "others"] []
  g_most_work : mg "most_work" = some (.ref a_most_work)
  a_l_cell : Addr
  d_l_cell : FuncData
  F_l_cell : Fun K "_law_cell" "_law_cell" s_l_cell a_l_cell d_l_cell
  b_l_cell : Binds K d_l_cell ["_law_script", "_law_k"] []
  g_l_cell : mg "_law_cell" = some (.ref a_l_cell)
  a_l_levels : Addr
  d_l_levels : FuncData
  F_l_levels : Fun K "_law_levels" "_law_levels" s_l_levels a_l_levels d_l_levels
  b_l_levels : Binds K d_l_levels ["_law_number_here"] []
  g_l_levels : mg "_law_levels" = some (.ref a_l_levels)
  a_l_number : Addr
  d_l_number : FuncData
  F_l_number : Fun K "_law_number" "_law_number" s_l_number a_l_number d_l_number
  b_l_number : Binds K d_l_number ["_law_cell_here"] []
  g_l_number : mg "_law_number" = some (.ref a_l_number)
  a_law : Addr
  d_law : FuncData
  F_law : Fun K "law" "law" s_law a_law d_law
  b_law : Binds K d_law ["_law_script"] []
  g_law : mg "law" = some (.ref a_law)
  z_bool : mg "bool" = none
  z_int : mg "int" = none
  z_isinstance : mg "isinstance" = none
  z_len : mg "len" = none
/-! ### the mathematics -/
theorem two_pos (n : Nat) : (0 : Int) < 2 ^ n := Int.pow_pos (by decide)
theorem two_succ (n : Nat) : (2 : Int) ^ (n + 1) = 2 ^ n + 2 ^ n := by
  rw [Int.pow_succ]; omega
theorem two_succ' (n : Nat) : (2 : Int) ^ (n + 1) = 2 ^ n * 2 := Int.pow_succ 2 n
theorem two_mono {a b : Nat} (h : a ≤ b) : (2 : Int) ^ a ≤ 2 ^ b := by
  obtain ⟨c, rfl⟩ := Nat.le.dest h
  induction c with
  | zero => exact Int.le_refl _
  | succ c ih =>
    have := ih (Nat.le_add_right _ _)
    have e : a + (c + 1) = (a + c) + 1 := rfl
    rw [e, two_succ]
    have := two_pos (a + c)
    omega
section
variable {P : Program} {w : World} {K : PySem.W.Frag} {mg : Str → Option Value} {base : Heap}
/-- a number of doublings: 2 ^ d ≤ n + 1 < 2 ^ (d + 1) -/
def Lev (n : Int) (d : Nat) : Prop := (2 : Int) ^ d ≤ n + 1 ∧ n + 1 < 2 ^ (d + 1)
def sp_levels : Sp := fun vs H Q _ => ∃ n : Int, vs = [.int n] ∧ 0 ≤ n ∧ ∀ d : Nat, Lev n d → Q (.int (d : Int)) H
theorem ok_levels (T : Txt K mg) : FnOk P w K mg base CX0 1 T.a_levels T.d_levels ["number"] sp_levels := by
  refine T.F_levels.ok sc_levels (fun vs H Q E h => ?_) (fun cdv A outer s H vs Q E hr h => ?_)
  · obtain ⟨i, rfl, _⟩ := h
    rfl
  · obtain ⟨n, rfl, hn, k⟩ := h
    refine ⟨_, (pss_cons (ps_set (i := 1) sc_levels.nd rfl (.inl rfl) pe_int)
  (pss_cons (ps_set (i := 2) sc_levels.nd rfl (.inl rfl) pe_int)
  (pss_cons (ps_while PassesOwn.never (pt_cmpR op_le (pv 2) (pe_op op_add (pv 0) pe_int) (nomark _))
  (pss_cons (ps_aug (i := 1) sc_levels.nd rfl (.inl rfl) pe_int ip_add)
  (pss_one (ps_aug (i := 2) sc_levels.nd rfl (.inl rfl) pe_int ip_mul))))
  (pss_one (ps_ret (pv 1)))))), ?_⟩
    refine while_by (fun σ H' => ∃ d : Nat, σ = [some (.int n), some (.int (d : Int)), some (.int (2 ^ (d + 1)))] ∧ H' = H ∧ (2 : Int) ^ d ≤ n + 1)
      (fun σ _ => match σ with | [_, _, some (.int x)] => (n + 2 - x).toNat | _ => 0) ⟨0, rfl, rfl, by simpa using by omega⟩ ?_ ?_
    · rintro σ H' ⟨d, rfl, rfl, hd⟩
      refine ⟨_, rfl, _, rfl, _, _, rfl, rfl, _, _, rfl, rfl, _, rfl, ?_⟩
      refine ite2 (fun c => ?_) (fun c => ?_)
      · have c' : (2 : Int) ^ (d + 1) ≤ n + 1 := of_decide_eq_true c
        refine ⟨_, rfl, _, _, rfl, rfl, ?_⟩
        refine ⟨_, rfl, _, _, rfl, rfl, .inr ⟨by decide, by decide⟩, ⟨d + 1, ?_, rfl, c'⟩, ?_⟩
        · rw [two_succ' (d + 1)]
          rfl
        · show (n + 2 - 2 ^ (d + 1) * 2).toNat < (n + 2 - 2 ^ (d + 1)).toNat
          have := two_pos (d + 1)
          omega
      · have c' : ¬ (2 : Int) ^ (d + 1) ≤ n + 1 := fun z => c (decide_eq_true z)
        exact ⟨_, rfl, k d ⟨hd, by omega⟩⟩
    · rintro σ H' Q1 Q2 hq ⟨v, e, u, e2, i, j, e3, e4, x1, x2, e5, e6, b, e7, q⟩
      exact ⟨v, e, u, e2, i, j, e3, e4, x1, x2, e5, e6, b, e7, hq _ _ q⟩
theorem lev_one {n : Int} {d e : Nat} (h : Lev n d) (g : Lev n e) : d = e := by
  by_cases c : d < e
  · have := two_mono (show d + 1 ≤ e by omega)
    have := h.2
    have := g.1
    omega
  · by_cases c2 : e < d
    · have := two_mono (show e + 1 ≤ d by omega)
      have := g.2
      have := h.1
      omega
    · omega
/-- the most work: by the deed's place in the row -/
def mostOf (i : Nat) (a b : Nat) : Int := if i = 0 then a else if i = 1 then a + b else if i = 2 then 2 * a else 3 * a
def deedOf (i : Nat) : Str := if i = 0 then "put" else if i = 1 then "pour" else if i = 2 then "take" else "sink"
def sp_most : Sp := fun vs H Q _ => ∃ (i : Nat) (n m : Int) (a b : Nat), vs = [.str (deedOf i), .int n, .int m] ∧ i < 4 ∧ 0 ≤ n ∧ 0 ≤ m ∧ Lev n a ∧ Lev m b ∧ a < 1000 ∧ Q (.int (mostOf i a b)) H
theorem ok_most (T : Txt K mg) : FnOk P w K mg base CX0 2 T.a_most_work T.d_most_work ["deed", "things", "others"] sp_most := by
  have G_levels : FnOk P w K mg base CX0 1 _ _ _ _ := ok_levels T
  refine T.F_most_work.ok sc_most_work (fun vs H Q E h => ?_) (fun cdv A outer s H vs Q E hr h => ?_)
  · obtain ⟨i, n, m, a, b, rfl, _⟩ := h
    rfl
  · obtain ⟨i, n, m, a, b, rfl, hi, hn, hm, la, lb, ha, k⟩ := h
    refine ⟨_, (pss_cons (ps_if (pt_cmpR op_eq (pv 0) pe_str (nomark _))
  (pss_one (ps_ret (pe_call G_levels hr rfl T.g_levels T.F_levels.kp T.b_levels .nil pass0 (pa_cons (pv 1) pa_nil))))
  pss_nil)
  (pss_cons (ps_if (pt_cmpR op_eq (pv 0) pe_str (nomark _))
  (pss_one (ps_ret (pe_op op_add (pe_call G_levels hr rfl T.g_levels T.F_levels.kp T.b_levels .nil pass0 (pa_cons (pv 1) pa_nil)) (pe_call G_levels hr rfl T.g_levels T.F_levels.kp T.b_levels .nil pass0 (pa_cons (pv 2) pa_nil)))))
  pss_nil)
  (pss_cons (ps_if (pt_cmpR op_eq (pv 0) pe_str (nomark _))
  (pss_one (ps_ret (pe_op op_mul pe_int (pe_call G_levels hr rfl T.g_levels T.F_levels.kp T.b_levels .nil pass0 (pa_cons (pv 1) pa_nil)))))
  pss_nil)
  (pss_one (ps_ret (pe_op op_mul pe_int (pe_call G_levels hr rfl T.g_levels T.F_levels.kp T.b_levels .nil pass0 (pa_cons (pv 1) pa_nil)))))))), ?_⟩
    have ne : ∀ {x y : Str}, ¬ x = y → ¬ V.str x = V.str y := fun h q => h (V.str.inj q)
    match i, hi with
    | 0, _ =>
      refine ⟨_, rfl, rfl, _, rfl, t_yes rfl ?_⟩
      refine ⟨_, rfl, n, rfl, hn, fun d hd => ?_⟩
      rw [lev_one hd la]
      exact k
    | 1, _ =>
      refine ⟨_, rfl, rfl, _, rfl, t_no (ne (by decide +kernel)) ?_⟩
      refine ⟨_, rfl, rfl, _, rfl, t_yes rfl ?_⟩
      refine ⟨_, rfl, n, rfl, hn, fun d hd => ⟨_, rfl, m, rfl, hm, fun e he => ⟨_, _, rfl, rfl, ?_⟩⟩⟩
      rw [lev_one hd la, lev_one he lb]
      exact k
    | 2, _ =>
      refine ⟨_, rfl, rfl, _, rfl, t_no (ne (by decide +kernel)) ?_⟩
      refine ⟨_, rfl, rfl, _, rfl, t_no (ne (by decide +kernel)) ?_⟩
      refine ⟨_, rfl, rfl, _, rfl, t_yes rfl ?_⟩
      refine ⟨_, rfl, n, rfl, hn, fun d hd => ⟨_, _, rfl, rfl, .inl ⟨by decide, by decide⟩, ?_⟩⟩
      rw [lev_one hd la]
      exact k
    | 3, _ =>
      refine ⟨_, rfl, rfl, _, rfl, t_no (ne (by decide +kernel)) ?_⟩
      refine ⟨_, rfl, rfl, _, rfl, t_no (ne (by decide +kernel)) ?_⟩
      refine ⟨_, rfl, rfl, _, rfl, t_no (ne (by decide +kernel)) ?_⟩
      refine ⟨_, rfl, n, rfl, hn, fun d hd => ⟨_, _, rfl, rfl, .inl ⟨by decide, by decide⟩, ?_⟩⟩
      rw [lev_one hd la]
      exact k
    | i + 4, h => omega
def sp_cell (K : PySem.W.Frag) : Sp := fun vs H Q _ => ∃ (a : Addr) (ns : List Int) (i : Nat), vs = [.ref a, .int (i : Int)] ∧ SqL K H a (ns.map V.int) ∧ Q (.int (ns.getD i 0)) H
theorem ok_cell (T : Txt K mg) : FnOk P w K mg base CX0 1 T.a_l_cell T.d_l_cell ["_law_script", "_law_k"] (sp_cell K) := by
  refine T.F_l_cell.ok sc_l_cell (fun vs H Q E h => ?_) (fun cdv A outer s H vs Q E hr h => ?_)
  · obtain ⟨a, ns, i, rfl, _⟩ := h
    rfl
  · obtain ⟨a, ns, i, rfl, hS, k⟩ := h
    refine ⟨_, (pss_cons (ps_if (pt_cmpR op_lt (pv 1) (pe_callB call_len_seq (by rfl) T.z_len PySem.boot_len (pa_cons (pv 0) pa_nil)) (nomark _))
  (pss_one (ps_ret (pe_ix ix_list (pv 0) (pv 1) (fun _ _ => rfl))))
  pss_nil)
  (pss_one (ps_ret pe_int))), ?_⟩
    refine ⟨_, rfl, _, rfl, a, ns.map V.int, rfl, .inl hS, _, _, rfl, rfl, _, rfl, t_2 (fun c => ?_) (fun c => ?_)⟩
    · rw [List.length_map] at c
      have hi : i < ns.length := by omega
      refine ⟨_, rfl, _, rfl, a, ns.map V.int, (i : Int), .int ns[i], rfl, rfl, hS, atI_nat (by rw [List.getElem?_map, List.getElem?_eq_getElem hi]; rfl), ?_⟩
      have e : ns.getD i 0 = ns[i] := by simp [List.getD, List.getElem?_eq_getElem hi]
      rw [e] at k
      exact k
    · rw [List.length_map] at c
      have e : ns.getD i 0 = 0 := by simp [List.getD, List.getElem?_eq_none (show ns.length ≤ i by omega)]
      rw [e] at k
      exact k
/-- the law's own doublings -/
def sp_levs : Sp := fun vs H Q _ => ∃ (n : Int) (d : Nat), vs = [.int n] ∧ Lev n d ∧ Q (.int (d : Int)) H
theorem ok_levs (T : Txt K mg) : FnOk P w K mg base CX0 1 T.a_l_levels T.d_l_levels ["_law_number_here"] sp_levs := by
  refine T.F_l_levels.ok sc_l_levels (fun vs H Q E h => ?_) (fun cdv A outer s H vs Q E hr h => ?_)
  · obtain ⟨n, d, rfl, _⟩ := h
    rfl
  · obtain ⟨n, dd, rfl, hl, k⟩ := h
    refine ⟨_, (pss_cons (ps_set (i := 1) sc_l_levels.nd rfl (.inl rfl) pe_int)
  (pss_cons (ps_set (i := 2) sc_l_levels.nd rfl (.inl rfl) pe_int)
  (pss_cons (ps_while PassesOwn.never (pt_cmpR op_le (pv 2) (pe_op op_add (pv 0) pe_int) (nomark _))
  (pss_cons (ps_set (i := 2) sc_l_levels.nd rfl (.inl rfl) (pe_op op_add (pv 2) (pv 2)))
  (pss_one (ps_set (i := 1) sc_l_levels.nd rfl (.inl rfl) (pe_op op_add (pv 1) pe_int)))))
  (pss_one (ps_ret (pv 1)))))), ?_⟩
    refine while_by (fun σ H' => ∃ d : Nat, σ = [some (.int n), some (.int (d : Int)), some (.int (2 ^ (d + 1)))] ∧ H = H' ∧ (2 : Int) ^ d ≤ n + 1)
      (fun σ _ => match σ with | [_, _, some (.int x)] => (n + 2 - x).toNat | _ => 0) ⟨0, rfl, rfl, by have := two_mono (Nat.zero_le dd); have := hl.1; simp only [Int.pow_zero] at *; omega⟩ ?_ ?_
    · rintro σ H' ⟨d, rfl, rfl, hd⟩
      refine ⟨_, rfl, _, rfl, _, _, rfl, rfl, _, _, rfl, rfl, _, rfl, t_2 (fun c => ?_) (fun c => ?_)⟩
      · refine ⟨_, rfl, _, rfl, _, _, rfl, rfl, ?_⟩
        refine ⟨_, rfl, _, _, rfl, rfl, ⟨d + 1, ?_, rfl, c⟩, ?_⟩
        · rw [two_succ (d + 1)]
          rfl
        · show (n + 2 - (2 ^ (d + 1) + 2 ^ (d + 1))).toNat < (n + 2 - 2 ^ (d + 1)).toNat
          have := two_pos (d + 1)
          omega
      · refine ⟨_, rfl, ?_⟩
        have e : d = dd := lev_one ⟨hd, by omega⟩ hl
        rw [e]
        exact k
    · rintro σ H' Q1 Q2 hq ⟨v, e, u, e2, i, j, e3, e4, x1, x2, e5, e6, b, e7, q⟩
      exact ⟨v, e, u, e2, i, j, e3, e4, x1, x2, e5, e6, b, e7, hq _ _ q⟩
def sp_number : Sp := fun vs H Q _ => ∃ c : Int, vs = [.int c] ∧ Builtin.Int.intBits c ≤ 1048576 ∧ ∀ n : Int, 0 ≤ n → n + 1 < 2 ^ 141 → Q (.int n) H
theorem ok_number (T : Txt K mg) : FnOk P w K mg base CX0 1 T.a_l_number T.d_l_number ["_law_cell_here"] sp_number := by
  refine T.F_l_number.ok sc_l_number (fun vs H Q E h => ?_) (fun cdv A outer s H vs Q E hr h => ?_)
  · obtain ⟨i, rfl, _⟩ := h
    rfl
  · obtain ⟨c, rfl, hc, k⟩ := h
    refine ⟨_, (pss_cons (ps_if (pt_cmpR op_eq (pe_op (op_modK 3 (by decide)) (pv 0) pe_int) pe_int (nomark _))
  (pss_one (ps_ret (pe_op op_mod (pe_op op_mulB (pe_op (op_fdivK 3 ⟨by decide, by decide⟩) (pv 0) pe_int) (pe_op op_pow pe_int pe_int)) (pe_op op_pow pe_int pe_int))))
  pss_nil)
  (pss_one (ps_ret (pe_op (op_modK 70 (by decide)) (pe_op (op_fdivK 3 ⟨by decide, by decide⟩) (pv 0) pe_int) pe_int)))), ?_⟩
    have e2 : (2 : Int) ^ 141 = 2787593149816327892691964784081045188247552 := by decide
    rw [e2] at k
    refine ⟨_, rfl, _, rfl, rfl, rfl, _, rfl, ite2 (fun _ => ?_) (fun _ => ?_)⟩
    · refine ⟨_, rfl, _, rfl, rfl, _, _, rfl, rfl, ⟨by decide, by decide, by decide⟩, _, _, rfl, rfl, ⟨bits_div (by decide) hc, by decide +kernel⟩, _, _, rfl, rfl, ⟨by decide, by decide, by decide⟩, _, _, rfl, rfl, (show (0 : Int) < 10 ^ (40 : Int).toNat by decide +kernel), ?_⟩
      have h1 : c / 3 * 999999999989 ^ (4 : Int).toNat % 10 ^ (40 : Int).toNat < 10 ^ (40 : Int).toNat := Int.emod_lt_of_pos _ (by decide +kernel)
      have e1 : (10 : Int) ^ (40 : Int).toNat = 10000000000000000000000000000000000000000 := by decide +kernel
      refine k _ (Int.emod_nonneg _ (by decide +kernel)) ?_
      rw [e1] at h1
      rw [e1]
      omega
    · have m70 : 0 ≤ c / 3 % 70 ∧ c / 3 % 70 < 70 := ⟨Int.emod_nonneg _ (by decide), Int.emod_lt_of_pos _ (by decide)⟩
      exact ⟨_, rfl, _, rfl, rfl, _, rfl, rfl, k _ m70.1 (by omega)⟩
theorem lev_ex : ∀ n : Nat, ∃ d, Lev (n : Int) d
  | 0 => ⟨0, by decide, by decide⟩
  | n + 1 => by
    obtain ⟨d, h1, h2⟩ := lev_ex n
    by_cases c : ((n + 1 : Nat) : Int) + 1 < 2 ^ (d + 1)
    · exact ⟨d, by omega, c⟩
    · refine ⟨d + 1, by omega, ?_⟩
      rw [two_succ]
      have := two_pos (d + 1)
      omega
theorem lev_ex' {n : Int} (h : 0 ≤ n) : ∃ d, Lev n d := by
  obtain ⟨m, rfl⟩ := Int.eq_ofNat_of_zero_le h
  exact lev_ex m
theorem lev_lt {n : Int} {d : Nat} (h : Lev n d) (hn : n + 1 < 2 ^ 141) : d ≤ 140 := by
  by_cases c : d ≤ 140
  · exact c
  · exfalso
    have := two_mono (show 141 ≤ d by omega)
    have := h.1
    omega
def sp_law (K : PySem.W.Frag) : Sp := fun vs H Q _ => ∃ (a : Addr) (ns : List Int), vs = [.ref a] ∧ SqL K H a (ns.map V.int) ∧ ns.length ≤ 63 ∧ (∀ z ∈ ns, Builtin.Int.intBits z ≤ 1048576) ∧ ∀ H', Q (.bl true) H'
theorem getD_bits {ns : List Int} (hb : ∀ z ∈ ns, Builtin.Int.intBits z ≤ 1048576) (i : Nat) : Builtin.Int.intBits (ns.getD i 0) ≤ 1048576 := by
  by_cases h : i < ns.length
  · have e : ns.getD i 0 = ns[i] := by simp [List.getD, List.getElem?_eq_getElem h]
    rw [e]
    exact hb _ (List.getElem_mem h)
  · have e : ns.getD i 0 = 0 := by simp [List.getD, List.getElem?_eq_none (show ns.length ≤ i by omega)]
    rw [e]
    decide
theorem ok_law (T : Txt K mg) : FnOk P w K mg base CX0 3 T.a_law T.d_law ["_law_script"] (sp_law K) := by
  have G_most_work : FnOk P w K mg base CX0 2 _ _ _ _ := ok_most T
  have G_l_levels : FnOk P w K mg base CX0 2 _ _ _ _ := (ok_levs T).mono (by decide)
  have G_l_cell : FnOk P w K mg base CX0 2 _ _ _ _ := (ok_cell T).mono (by decide)
  have G_l_number : FnOk P w K mg base CX0 2 _ _ _ _ := (ok_number T).mono (by decide)
  refine T.F_law.ok sc_law (fun vs H Q E h => ?_) (fun cdv A outer s H vs Q E hr h => ?_)
  · obtain ⟨a, ns, rfl, _⟩ := h
    rfl
  · obtain ⟨a, ns, rfl, hS, hlen, hb, k⟩ := h
    refine ⟨_, (pss_cons (ps_set (i := 1) sc_law.nd rfl (.inl rfl) (pe_call G_l_number hr rfl T.g_l_number T.F_l_number.kp T.b_l_number .nil pass0 (pa_cons (pe_call G_l_cell hr rfl T.g_l_cell T.F_l_cell.kp T.b_l_cell .nil pass0 (pa_cons (pv 0) (pa_cons pe_int pa_nil))) pa_nil)))
  (pss_cons (ps_set (i := 2) sc_law.nd rfl (.inl rfl) (pe_call G_l_number hr rfl T.g_l_number T.F_l_number.kp T.b_l_number .nil pass0 (pa_cons (pe_call G_l_cell hr rfl T.g_l_cell T.F_l_cell.kp T.b_l_cell .nil pass0 (pa_cons (pv 0) (pa_cons pe_int pa_nil))) pa_nil)))
  (pss_cons (ps_set (i := 3) sc_law.nd rfl (.inl rfl) (pe_op (op_modK 4 (by decide)) (pe_call G_l_cell hr rfl T.g_l_cell T.F_l_cell.kp T.b_l_cell .nil pass0 (pa_cons (pv 0) (pa_cons pe_int pa_nil))) pe_int))
  (pss_cons (ps_set (i := 4) sc_law.nd rfl (.inl rfl) (pe_call G_most_work hr rfl T.g_most_work T.F_most_work.kp T.b_most_work .nil pass0 (pa_cons (pe_ix ix_list (pe_lst (pa_cons pe_str (pa_cons pe_str (pa_cons pe_str (pa_cons pe_str pa_nil))))) (pv 3) (fun _ _ => rfl)) (pa_cons (pv 1) (pa_cons (pv 2) pa_nil)))))
  (pss_cons (ps_set (i := 5) sc_law.nd rfl (.inl rfl) (pe_call G_l_levels hr rfl T.g_l_levels T.F_l_levels.kp T.b_l_levels .nil pass0 (pa_cons (pv 1) pa_nil)))
  (pss_cons (ps_set (i := 6) sc_law.nd rfl (.inl rfl) (pe_ix ix_list (pe_lst (pa_cons (pv 5) (pa_cons (pe_op op_add (pv 5) (pe_call G_l_levels hr rfl T.g_l_levels T.F_l_levels.kp T.b_l_levels .nil pass0 (pa_cons (pv 2) pa_nil))) (pa_cons (pe_op op_add (pv 5) (pv 5)) (pa_cons (pe_op op_add (pe_op op_add (pv 5) (pv 5)) (pv 5)) pa_nil))))) (pv 3) (fun _ _ => rfl)))
  (pss_one (ps_ret (pe_and (pe_callB call_isi (by rfl) T.z_isinstance (by decide +kernel) (pa_cons (pv 4) (pa_cons (pe_bltn (v := .ty "int") (by rfl) T.z_int (by decide +kernel) rfl) pa_nil))) (pe_and (pe_not (pe_callB call_isi (by rfl) T.z_isinstance (by decide +kernel) (pa_cons (pv 4) (pa_cons (pe_bltn (v := .ty "bool") (by rfl) T.z_bool (by decide +kernel) rfl) pa_nil)))) (pe_one (pe_cmpR op_eq (pv 4) (pv 6) (nomark _))))))))))))), ?_⟩
    refine ⟨_, rfl, a, ns, 0, rfl, hS, _, rfl, getD_bits hb 0, fun n hn hn2 => ?_⟩
    refine ⟨_, rfl, a, ns, 1, rfl, hS, _, rfl, getD_bits hb 1, fun m hm hm2 => ?_⟩
    refine ⟨_, rfl, a, ns, 2, rfl, hS, _, rfl, rfl, ?_⟩
    have hi : 0 ≤ ns.getD 2 0 % 4 ∧ ns.getD 2 0 % 4 < 4 := ⟨Int.emod_nonneg _ (by decide), Int.emod_lt_of_pos _ (by decide)⟩
    generalize ns.getD 2 0 % 4 = x at hi ⊢
    obtain ⟨i, rfl⟩ := Int.eq_ofNat_of_zero_le hi.1
    obtain ⟨da, la⟩ := lev_ex' hn
    obtain ⟨db, lb⟩ := lev_ex' hm
    have ha := lev_lt la hn2
    have hi4 : i < 4 := by omega
    have same : ∀ {H : Hp} {p : Addr} {o : HO}, H p = none → Same H (upd H p o) := fun hp b u e => by
      rw [upd_ne (ne_of_none e hp)]
      exact e
    have at1 : ([V.str "put", .str "pour", .str "take", .str "sink"] : List V)[i]? = some (.str (deedOf i)) := by
      match i, hi4 with
      | 0, _ => rfl
      | 1, _ => rfl
      | 2, _ => rfl
      | 3, _ => rfl
      | i + 4, h => omega
    refine ⟨(by show 4 ≤ sizeLine; decide), fun p hp => ⟨_, rfl, p, _, _, _, rfl, rfl, SqL.of upd_same, atI_nat at1, ?_⟩⟩
    refine ⟨_, rfl, _, rfl, i, n, m, da, db, rfl, hi4, hn, hm, la, lb, by omega, ?_⟩
    refine ⟨_, rfl, n, da, rfl, la, ?_⟩
    refine ⟨_, rfl, _, rfl, _, rfl, m, db, rfl, lb, _, _, rfl, rfl, _, rfl, _, rfl, _, _, rfl, rfl, _, rfl, _, rfl, _, _, rfl, rfl, _, rfl, _, _, rfl, rfl, ?_⟩
    have at2 : ([V.int (da : Int), .int ((da : Int) + (db : Int)), .int ((da : Int) + (da : Int)), .int ((da : Int) + (da : Int) + (da : Int))] : List V)[i]? = some (.int (mostOf i da db)) := by
      match i, hi4 with
      | 0, _ => rfl
      | 1, _ => rfl
      | 2, _ =>
        show some (V.int ((da : Int) + da)) = some (V.int (2 * (da : Int)))
        rw [Int.two_mul]
      | 3, _ =>
        show some (V.int ((da : Int) + da + da)) = some (V.int (3 * (da : Int)))
        rw [show (da : Int) + da + da = 3 * (da : Int) by omega]
      | i + 4, h => omega
    refine ⟨(by show 4 ≤ sizeLine; decide), fun q hq => ⟨_, rfl, q, _, _, _, rfl, rfl, SqL.of upd_same, atI_nat at2, ?_⟩⟩
    refine ⟨_, rfl, _, _, _, _, _, rfl, .ty "int", .base (.int _), kit_ty (by decide +kernel), true, rfl, ?_⟩
    refine iteT ⟨_, rfl, _, _, _, _, _, rfl, .ty "bool", .base (.int _), kit_ty (by decide +kernel), false, rfl, true, rfl, ?_⟩
    refine iteT ⟨_, rfl, _, rfl, rfl, ?_⟩
    exact q_yes rfl (k _)
end
theorem all_mk {l : PySem.W.OpenLaw} {w : World} {K : PySem.W.Frag} {h : Heap} {mg : Str → Option Value} {fa : Addr} (X : K.In h) (G : h.Ns mainGlobals mg) (hfa : mg "law" = some (.ref fa))
    {f_levels : Addr} {od_levels an_levels : Option Addr} {sl_levels : Array (Option Value)} {oc_levels kV_levels dc_levels pm_levels cd_levels ct_levels : Value}
    {f_most_work : Addr} {od_most_work an_most_work : Option Addr} {sl_most_work : Array (Option Value)} {oc_most_work kV_most_work dc_most_work pm_most_work cd_most_work ct_most_work : Value}
    {f_l_cell : Addr} {od_l_cell an_l_cell : Option Addr} {sl_l_cell : Array (Option Value)} {oc_l_cell kV_l_cell dc_l_cell pm_l_cell cd_l_cell ct_l_cell : Value}
    {f_l_levels : Addr} {od_l_levels an_l_levels : Option Addr} {sl_l_levels : Array (Option Value)} {oc_l_levels kV_l_levels dc_l_levels pm_l_levels cd_l_levels ct_l_levels : Value}
    {f_l_number : Addr} {od_l_number an_l_number : Option Addr} {sl_l_number : Array (Option Value)} {oc_l_number kV_l_number dc_l_number pm_l_number cd_l_number ct_l_number : Value}
    {f_law : Addr} {od_law an_law : Option Addr} {sl_law : Array (Option Value)} {oc_law kV_law dc_law pm_law cd_law ct_law : Value}
    (a_levels : PySem.W.nsIn K mainGlobals "levels" = some (some (.ref f_levels)))
    (l_levels : K.lookup f_levels = some ⟨oc_levels, od_levels, .func (PySem.W.fnOf "levels" "levels" (defArgs s_levels) (defBody s_levels) (defScope s_levels) .none kV_levels dc_levels pm_levels an_levels cd_levels ct_levels), sl_levels⟩)
    (c_levels : PySem.W.codeIn K cd_levels "levels" = true)
    (k_levels : PySem.W.keepIn K (.ref f_levels) = true)
    (a_most_work : PySem.W.nsIn K mainGlobals "most_work" = some (some (.ref f_most_work)))
    (l_most_work : K.lookup f_most_work = some ⟨oc_most_work, od_most_work, .func (PySem.W.fnOf "most_work" "most_work" (defArgs s_most_work) (defBody s_most_work) (defScope s_most_work) .none kV_most_work dc_most_work pm_most_work an_most_work cd_most_work ct_most_work), sl_most_work⟩)
    (c_most_work : PySem.W.codeIn K cd_most_work "most_work" = true)
    (k_most_work : PySem.W.keepIn K (.ref f_most_work) = true)
    (a_l_cell : PySem.W.nsIn K mainGlobals "_law_cell" = some (some (.ref f_l_cell)))
    (l_l_cell : K.lookup f_l_cell = some ⟨oc_l_cell, od_l_cell, .func (PySem.W.fnOf "_law_cell" "_law_cell" (defArgs s_l_cell) (defBody s_l_cell) (defScope s_l_cell) .none kV_l_cell dc_l_cell pm_l_cell an_l_cell cd_l_cell ct_l_cell), sl_l_cell⟩)
    (c_l_cell : PySem.W.codeIn K cd_l_cell "_law_cell" = true)
    (k_l_cell : PySem.W.keepIn K (.ref f_l_cell) = true)
    (a_l_levels : PySem.W.nsIn K mainGlobals "_law_levels" = some (some (.ref f_l_levels)))
    (l_l_levels : K.lookup f_l_levels = some ⟨oc_l_levels, od_l_levels, .func (PySem.W.fnOf "_law_levels" "_law_levels" (defArgs s_l_levels) (defBody s_l_levels) (defScope s_l_levels) .none kV_l_levels dc_l_levels pm_l_levels an_l_levels cd_l_levels ct_l_levels), sl_l_levels⟩)
    (c_l_levels : PySem.W.codeIn K cd_l_levels "_law_levels" = true)
    (k_l_levels : PySem.W.keepIn K (.ref f_l_levels) = true)
    (a_l_number : PySem.W.nsIn K mainGlobals "_law_number" = some (some (.ref f_l_number)))
    (l_l_number : K.lookup f_l_number = some ⟨oc_l_number, od_l_number, .func (PySem.W.fnOf "_law_number" "_law_number" (defArgs s_l_number) (defBody s_l_number) (defScope s_l_number) .none kV_l_number dc_l_number pm_l_number an_l_number cd_l_number ct_l_number), sl_l_number⟩)
    (c_l_number : PySem.W.codeIn K cd_l_number "_law_number" = true)
    (k_l_number : PySem.W.keepIn K (.ref f_l_number) = true)
    (a_law : PySem.W.nsIn K mainGlobals "law" = some (some (.ref f_law)))
    (l_law : K.lookup f_law = some ⟨oc_law, od_law, .func (PySem.W.fnOf "law" "law" (defArgs s_law) (defBody s_law) (defScope s_law) .none kV_law dc_law pm_law an_law cd_law ct_law), sl_law⟩)
    (c_law : PySem.W.codeIn K cd_law "law" = true)
    (k_law : PySem.W.keepIn K (.ref f_law) = true)
    (z_bool : PySem.W.nsIn K mainGlobals "bool" = some none)
    (z_int : PySem.W.nsIn K mainGlobals "int" = some none)
    (z_isinstance : PySem.W.nsIn K mainGlobals "isinstance" = some none)
    (z_len : PySem.W.nsIn K mainGlobals "len" = some none)
    : ∃ fd : FuncData, (∀ (s : Shared) (v : Value), BindsTo s fd ⟨[v], []⟩ [("_law_script", v)]) ∧ ∀ base : Heap, K.In base → base.Ns mainGlobals mg → FnOk l.prog w K mg base CX0 3 fa fd ["_law_script"] (sp_law K) := by
  have e := hfa.symm.trans (PySem.W.mg_of X G a_law)
  cases e
  have F_levels := fun_mk (st := s_levels) l_levels c_levels k_levels
  have b_levels := F_levels.binds (ps := ["number"]) fun _ _ _ _ _ _ us hl => match us, hl with | [_], _ => rfl
  have F_most_work := fun_mk (st := s_most_work) l_most_work c_most_work k_most_work
  have b_most_work := F_most_work.binds (ps := ["deed", "things", "others"]) fun _ _ _ _ _ _ us hl => match us, hl with | [_, _, _], _ => rfl
  have F_l_cell := fun_mk (st := s_l_cell) l_l_cell c_l_cell k_l_cell
  have b_l_cell := F_l_cell.binds (ps := ["_law_script", "_law_k"]) fun _ _ _ _ _ _ us hl => match us, hl with | [_, _], _ => rfl
  have F_l_levels := fun_mk (st := s_l_levels) l_l_levels c_l_levels k_l_levels
  have b_l_levels := F_l_levels.binds (ps := ["_law_number_here"]) fun _ _ _ _ _ _ us hl => match us, hl with | [_], _ => rfl
  have F_l_number := fun_mk (st := s_l_number) l_l_number c_l_number k_l_number
  have b_l_number := F_l_number.binds (ps := ["_law_cell_here"]) fun _ _ _ _ _ _ us hl => match us, hl with | [_], _ => rfl
  have F_law := fun_mk (st := s_law) l_law c_law k_law
  have b_law := F_law.binds (ps := ["_law_script"]) fun _ _ _ _ _ _ us hl => match us, hl with | [_], _ => rfl
  let T : Txt K mg := {
    a_levels := f_levels
    d_levels := _
    F_levels := F_levels
    b_levels := b_levels
    g_levels := PySem.W.mg_of X G a_levels
    a_most_work := f_most_work
    d_most_work := _
    F_most_work := F_most_work
    b_most_work := b_most_work
    g_most_work := PySem.W.mg_of X G a_most_work
    a_l_cell := f_l_cell
    d_l_cell := _
    F_l_cell := F_l_cell
    b_l_cell := b_l_cell
    g_l_cell := PySem.W.mg_of X G a_l_cell
    a_l_levels := f_l_levels
    d_l_levels := _
    F_l_levels := F_l_levels
    b_l_levels := b_l_levels
    g_l_levels := PySem.W.mg_of X G a_l_levels
    a_l_number := f_l_number
    d_l_number := _
    F_l_number := F_l_number
    b_l_number := b_l_number
    g_l_number := PySem.W.mg_of X G a_l_number
    a_law := fa
    d_law := _
    F_law := F_law
    b_law := b_law
    g_law := PySem.W.mg_of X G a_law
    z_bool := PySem.W.mg_none_of X G z_bool
    z_int := PySem.W.mg_none_of X G z_int
    z_isinstance := PySem.W.mg_none_of X G z_isinstance
    z_len := PySem.W.mg_none_of X G z_len }
  exact ⟨_, fun s v => .of_eq rfl, fun base _ _ => ok_law T⟩
theorem walk {l : PySem.W.OpenLaw} {q : Program} {loose : List Str} {XP : (Str → Option Value) → Heap → Prop} {YP : World → Heap → Prop} {d : DefRec} {K : Params → PySem.W.Frag} (hn : l.most = some 63) (hdf : d.params.defaults = [])
    (hY : ∀ (w : World) (h : Heap), YP w h → (K w.params).In h)
    (F : ∀ (w : World) (mg : Str → Option Value) (fa : Addr) (h : Heap), (K w.params).In h → h.Ns mainGlobals mg → mg d.name = some (.ref fa) →
      ∃ fd : FuncData, (∀ (s : Shared) (u : Value), BindsTo s fd ⟨[u], []⟩ [("_law_script", u)]) ∧ ∀ base : Heap, (K w.params).In base → base.Ns mainGlobals mg → FnOk l.prog w (K w.params) mg base CX0 3 fa fd ["_law_script"] (sp_law (K w.params))) :
    PySem.W.WalkO q loose XP YP l.row.toRowW d [] (fun f vs => PySem.call f vs) :=
  L2.walk_ofB (n := 63) (k := 3) (x := "_law_script") (CX := fun _ => CX0) (sp := fun w => sp_law (K w.params)) hn (by decide) hdf ⟨rfl, by decide, by decide⟩ hY F (fun _ _ a ns hl hb _ hS => ⟨a, ns, rfl, hS, hl, hb, fun _ => rfl⟩) fun _ _ _ _ _ z => z
end Sp
open PySem PySem.W PyProof.Rows
set_option maxRecDepth 100000 in
set_option maxHeartbeats 0 in
theorem PySem.Challenge.cw_splitheap_k02_most_work_holds : PySem.Challenge.rw_splitheap_k02_most_work.Holds := by
  w_on; o_law; k_head; (case hw => w_witness2)
  k_fill
  refine Sp.walk (l := PySem.Challenge.rw_splitheap_k02_most_work) rfl rfl (fun w h Y => PySem.W.kIn_of Y) ?F
  case F =>
    intro w mg fa h KX G hmg
    refine' Sp.all_mk KX G hmg ?a_levels ?l_levels ?c_levels ?k_levels ?a_most_work ?l_most_work ?c_most_work ?k_most_work ?a_l_cell ?l_l_cell ?c_l_cell ?k_l_cell ?a_l_levels ?l_l_levels ?c_l_levels ?k_l_levels ?a_l_number ?l_l_number ?c_l_number ?k_l_number ?a_law ?l_law ?c_law ?k_law ?z_bool ?z_int ?z_isinstance ?z_len
    (case a_levels => k_is)
    (case l_levels => k_is)
    (case c_levels => k_is)
    (case k_levels => k_is)
    (case a_most_work => k_is)
    (case l_most_work => k_is)
    (case c_most_work => k_is)
    (case k_most_work => k_is)
    (case a_l_cell => k_is)
    (case l_l_cell => k_is)
    (case c_l_cell => k_is)
    (case k_l_cell => k_is)
    (case a_l_levels => k_is)
    (case l_l_levels => k_is)
    (case c_l_levels => k_is)
    (case k_l_levels => k_is)
    (case a_l_number => k_is)
    (case l_l_number => k_is)
    (case c_l_number => k_is)
    (case k_l_number => k_is)
    (case a_law => k_is)
    (case l_law => k_is)
    (case c_law => k_is)
    (case k_law => k_is)
    (case z_bool => k_is)
    (case z_int => k_is)
    (case z_isinstance => k_is)
    (case z_len => k_is)

