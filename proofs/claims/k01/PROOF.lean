import PyProof.Rows.All
import Wide.All
import OpenK.AllK
import Wide.FinOn
import HandS.ForMost
import HandS.IsInst
import HandS.EndBits
import HandS.Codes
import PySem.Challenge.RW_splitheap_k01_levels
set_option Elab.async false
set_option linter.all false
set_option maxRecDepth 100000
set_option maxHeartbeats 4000000
namespace Sp
open PySem PySem.Spec L2
open PyProof.Rows (mul_int)
/-! ### small things -/
theorem ip_mul {X : Cx} : PIp X .Mult (fun x y H Q => ∃ i j, x = .int i ∧ y = .int j ∧ CMul i j ∧ Q (.int (i * j)) H) :=
  fun pins s σ H x y v u Q I r1 r2 h => iop_mul pins s σ H x y v u Q I r1 r2 h
theorem bits_le {x : Int} : Builtin.Int.intBits x ≤ x.natAbs.log2 + 1 := by
  unfold Builtin.Int.intBits
  split <;> omega
theorem bits_ge {x : Int} : x.natAbs.log2 ≤ Builtin.Int.intBits x := by
  unfold Builtin.Int.intBits
  split
  · rename_i h
    have e : x.natAbs = 0 := by
      first
        | exact Int.natAbs_eq_zero.mpr (by simpa using h)
        | (simp at h; exact Int.natAbs_eq_zero.mpr h)
        | omega
    rw [e]
    decide
  · omega
theorem log2_mono {a b : Nat} (h : a ≤ b) : a.log2 ≤ b.log2 := by
  by_cases ha : a = 0
  · subst ha
    have : Nat.log2 0 = 0 := by decide
    omega
  · have hb : b ≠ 0 := by omega
    exact (Nat.le_log2 hb).mpr (Nat.le_trans (Nat.log2_self_le ha) h)
theorem fdiv_abs (x : Int) {d : Int} (hd : 0 < d) : (x / d).natAbs ≤ x.natAbs := by
  by_cases hx : 0 ≤ x
  · have h3 : 0 ≤ x / d := Int.ediv_nonneg hx (by omega)
    have h4 : x / d ≤ x := Int.ediv_le_self d hx
    omega
  · have h3 : x / d < 0 := Int.ediv_neg_of_neg_of_pos (by omega) hd
    have h2 : x < (x / d + 1) * d := Int.lt_ediv_add_one_mul_self x hd
    have h4 : x ≤ x / d := by
      by_cases c : x ≤ x / d
      · exact c
      · exfalso
        have h8 : (x / d + 1) * d ≤ (x / d + 1) * 1 := Int.mul_le_mul_of_nonpos_left (by omega) (by omega)
        omega
    omega
/-- * of two factors of at most two million bits each -/
def CMulB (i j : Int) : Prop := Builtin.Int.intBits i ≤ 1048577 ∧ Builtin.Int.intBits j ≤ 1048577
theorem CMulB.ok {i j : Int} (h : CMulB i j) : IntMulOk i j := by
  have e : bitsLine = 134217728 := by decide
  unfold IntMulOk
  intro z
  rw [Bool.and_eq_true] at z
  have z2 := z.2
  unfold Builtin.Int.intTooBig at z2
  have z3 := of_decide_eq_true z2
  rw [e] at z3
  have := h.1
  have := h.2
  omega
theorem op_mulB {X : Cx} : OpR X (binaryOp .Mult) (rI CMulB fun i j => .int (i * j)) := opI fun _ _ _ _ _ _ _ hc q => mul_int q hc.ok
theorem bits_div {x d : Int} (hd : 0 < d) (h : Builtin.Int.intBits x ≤ 1048576) : Builtin.Int.intBits (x / d) ≤ 1048577 :=
  Nat.le_trans bits_le (Nat.succ_le_succ (Nat.le_trans (log2_mono (fdiv_abs x hd)) (Nat.le_trans bits_ge h)))
/-- // and % by a written number -/
def rModK (d : Int) : R2 := fun x y H Q => ∃ i, x = .int i ∧ y = .int d ∧ Q (.int (i % d)) H
def rDivK (d : Int) : R2 := fun x y H Q => ∃ i, x = .int i ∧ y = .int d ∧ Q (.int (i / d)) H
theorem op_modK {X : Cx} (d : Int) (hd : 0 < d) : OpR X (binaryOp .Mod) (rModK d) := fun pins s σ H x y v u Q I r1 r2 h => by
  obtain ⟨i, e1, e2, q⟩ := h
  exact op_mod pins s σ H x y v u Q I r1 r2 ⟨i, d, e1, e2, hd, q⟩
theorem op_fdivK {X : Cx} (d : Int) (hd : 0 < d ∧ d < 1073741824) : OpR X (binaryOp .FloorDiv) (rDivK d) := fun pins s σ H x y v u Q I r1 r2 h => by
  obtain ⟨i, e1, e2, q⟩ := h
  exact op_fdiv pins s σ H x y v u Q I r1 r2 ⟨i, d, e1, e2, hd, q⟩
/-- a test that holds, that does not -/
theorem q_yes {p : Prop} [Decidable p] {Q : VK} {H : Hp} (h : p) (q : Q (.bl true) H) : Q (.bl (decide p)) H := by
  rw [decide_eq_true h]
  exact q
theorem q_no {p : Prop} [Decidable p] {Q : VK} {H : Hp} (h : ¬ p) (q : Q (.bl false) H) : Q (.bl (decide p)) H := by
  rw [decide_eq_false h]
  exact q
theorem t_yes {p A B : Prop} [Decidable p] (h : p) (q : A) : if decide p = true then A else B := by
  rw [decide_eq_true h]
  exact iteT q
theorem t_no {p A B : Prop} [Decidable p] (h : ¬ p) (q : B) : if decide p = true then A else B := by
  rw [decide_eq_false h]
  exact iteF q
/-- both ways of a test -/
theorem t_2 {p A B : Prop} [Decidable p] (h1 : p → A) (h2 : ¬ p → B) : if decide p = true then A else B := by
  by_cases h : p
  · exact t_yes h (h1 h)
  · exact t_no h (h2 h)
theorem val_at {ns : List Int} {i : Nat} {y : V} (h : (ns.map V.int)[i]? = some y) : ∃ z, ns[i]? = some z ∧ y = V.int z := by
  rw [List.getElem?_map] at h
  cases e : ns[i]? with
  | none =>
    rw [e] at h
    cases h
  | some z =>
    rw [e] at h
    exact ⟨z, rfl, (Option.some.inj h).symm⟩
def topS (i : Nat) : Stmt := PySem.Challenge.pw_splitheap_k01_levels.main.body.getD i (.Pass ⟨0, 0, 0, 0⟩)
abbrev s_levels : Stmt := topS 1
abbrev N_levels : List Str := ["number", "doublings", "doubled"]
theorem sc_levels : FnScope N_levels ["number"] (defScope s_levels) := ⟨rfl, rfl, rfl, by decide +kernel, rfl, by decide +kernel, by decide +kernel⟩
abbrev s_l_whole : Stmt := topS 3
abbrev N_l_whole : List Str := ["_law_found"]
theorem sc_l_whole : FnScope N_l_whole ["_law_found"] (defScope s_l_whole) := ⟨rfl, rfl, rfl, by decide +kernel, rfl, by decide +kernel, by decide +kernel⟩
abbrev s_l_doubled : Stmt := topS 4
abbrev N_l_doubled : List Str := ["_law_times", "_law_power", "_law_turn"]
theorem sc_l_doubled : FnScope N_l_doubled ["_law_times"] (defScope s_l_doubled) := ⟨rfl, rfl, rfl, by decide +kernel, rfl, by decide +kernel, by decide +kernel⟩
abbrev s_law : Stmt := topS 5
abbrev N_law : List Str := ["_law_script", "_law_cell", "_law_number", "_law_found", "_law_power"]
theorem sc_law : FnScope N_law ["_law_script"] (defScope s_law) := ⟨rfl, rfl, rfl, by decide +kernel, rfl, by decide +kernel, by decide +kernel⟩
/-- what stands behind the top -/
structure Txt (K : PySem.W.Frag) (mg : Str → Option Value) where
  a_levels : Addr
  d_levels : FuncData
  F_levels : Fun K "levels" "levels" s_levels a_levels d_levels
  b_levels : Binds K d_levels ["number"] []
  g_levels : mg "levels" = some (.ref a_levels)
  a_l_whole : Addr
  d_l_whole : FuncData
  F_l_whole : Fun K "_law_whole" "_law_whole" s_l_whole a_l_whole d_l_whole
  b_l_whole : Binds K d_l_whole ["_law_found"] []
  g_l_whole : mg "_law_whole" = some (.ref a_l_whole)
  a_l_doubled : Addr
  d_l_doubled : FuncData
  F_l_doubled : Fun K "_law_doubled" "_law_doubled" s_l_doubled a_l_doubled d_l_doubled
  b_l_doubled : Binds K d_l_doubled ["_law_times"] []
  g_l_doubled : mg "_law_doubled" = some (.ref a_l_doubled)
  a_law : Addr
  d_law : FuncData
  F_law : Fun K "law" "law" s_law a_law d_law
  b_law : Binds K d_law ["_law_script"] []
  g_law : mg "law" = some (.ref a_law)
  z_bool : mg "bool" = none
  z_int : mg "int" = none
  z_isinstance : mg "isinstance" = none
  z_len : mg "len" = none
  z_max : mg "max" = none
  z_range : mg "range" = none
/-! ### the mathematics -/
theorem two_pos (n : Nat) : (0 : Int) < 2 ^ n := Int.pow_pos (by decide)
theorem two_succ (n : Nat) : (2 : Int) ^ (n + 1) = 2 ^ n + 2 ^ n := by
  rw [Int.pow_succ]; omega
theorem two_succ' (n : Nat) : (2 : Int) ^ (n + 1) = 2 ^ n * 2 := Int.pow_succ 2 n
theorem two_mono {a b : Nat} (h : a ≤ b) : (2 : Int) ^ a ≤ 2 ^ b := by
  obtain ⟨c, rfl⟩ := Nat.le.dest h
  induction c with
  | zero => exact Int.le_refl _
  | succ c ih =>
    have := ih (Nat.le_add_right _ _)
    have e : a + (c + 1) = (a + c) + 1 := rfl
    rw [e, two_succ]
    have := two_pos (a + c)
    omega
section
variable {P : Program} {w : World} {K : PySem.W.Frag} {mg : Str → Option Value} {base : Heap}
def sp_whole : Sp := fun vs H Q _ => ∃ i : Int, vs = [.int i] ∧ Q (.bl true) H
theorem ok_whole (T : Txt K mg) : FnOk P w K mg base CX0 1 T.a_l_whole T.d_l_whole ["_law_found"] sp_whole := by
  refine T.F_l_whole.ok sc_l_whole (fun vs H Q E h => ?_) (fun cdv A outer s H vs Q E hr h => ?_)
  · obtain ⟨i, rfl, _⟩ := h
    rfl
  · obtain ⟨i, rfl, k⟩ := h
    refine ⟨_, (pss_one (ps_ret (pe_and (pe_callB call_isi (by rfl) T.z_isinstance (by decide +kernel) (pa_cons (pv 0) (pa_cons (pe_bltn (v := .ty "int") (by rfl) T.z_int (by decide +kernel) rfl) pa_nil))) (pe_one (pe_not (pe_callB call_isi (by rfl) T.z_isinstance (by decide +kernel) (pa_cons (pv 0) (pa_cons (pe_bltn (v := .ty "bool") (by rfl) T.z_bool (by decide +kernel) rfl) pa_nil)))))))), ?_⟩
    refine ⟨_, rfl, _, _, _, _, _, rfl, .ty "int", .base (.int i), kit_ty (by decide +kernel), true, rfl, ?_⟩
    refine iteT ⟨_, rfl, _, _, _, _, _, rfl, .ty "bool", .base (.int i), kit_ty (by decide +kernel), false, rfl, ?_⟩
    exact k
/-- 2 ^ n -/
def sp_doubled : Sp := fun vs H Q _ => ∃ n : Nat, vs = [.int (n : Int)] ∧ n ≤ 1000 ∧ Q (.int (2 ^ n)) H
theorem ok_doubled (T : Txt K mg) : FnOk P w K mg base CX0 1 T.a_l_doubled T.d_l_doubled ["_law_times"] sp_doubled := by
  refine T.F_l_doubled.ok sc_l_doubled (fun vs H Q E h => ?_) (fun cdv A outer s H vs Q E hr h => ?_)
  · obtain ⟨i, rfl, _⟩ := h
    rfl
  · obtain ⟨n, rfl, hn, k⟩ := h
    refine ⟨_, (pss_cons (ps_set (i := 1) sc_l_doubled.nd rfl (.inl rfl) pe_int)
  (pss_cons (ps_for PassesOwn.never rfl (pi_range1 (by rfl) T.z_range (pa_cons (pv 0) pa_nil)) (pg_name (i := 2) sc_l_doubled.nd rfl (.inl rfl))
  (pss_one (ps_set (i := 1) sc_l_doubled.nd rfl (.inl rfl) (pe_op op_add (pv 1) (pv 1)))))
  (pss_one (ps_ret (pv 1))))), ?_⟩
    refine ⟨_, rfl, (n : Int), rfl, by omega, by omega, for_range (lo := 0) (n := (n : Int).toNat) (fun i σ H' => ∃ v : Option V, σ = [some (.int (n : Int)), some (.int (2 ^ i)), v] ∧ H' = H) ⟨none, rfl, rfl⟩ ?_ ?_⟩
    · rintro i σ H' hi ⟨v, rfl, rfl⟩
      refine ⟨_, rfl, _, rfl, _, _, rfl, rfl, some (.int (0 + i)), ?_, rfl⟩
      rw [two_succ]
      rfl
    · rintro σ H' ⟨v, rfl, rfl⟩
      refine ⟨_, rfl, ?_⟩
      rw [Int.toNat_natCast]
      exact k
/-- a number of doublings: 2 ^ d ≤ n + 1 < 2 ^ (d + 1) -/
def Lev (n : Int) (d : Nat) : Prop := (2 : Int) ^ d ≤ n + 1 ∧ n + 1 < 2 ^ (d + 1)
def sp_levels : Sp := fun vs H Q _ => ∃ n : Int, vs = [.int n] ∧ 0 ≤ n ∧ ∀ d : Nat, Lev n d → Q (.int (d : Int)) H
theorem ok_levels (T : Txt K mg) : FnOk P w K mg base CX0 1 T.a_levels T.d_levels ["number"] sp_levels := by
  refine T.F_levels.ok sc_levels (fun vs H Q E h => ?_) (fun cdv A outer s H vs Q E hr h => ?_)
  · obtain ⟨i, rfl, _⟩ := h
    rfl
  · obtain ⟨n, rfl, hn, k⟩ := h
    refine ⟨_, (pss_cons (ps_set (i := 1) sc_levels.nd rfl (.inl rfl) pe_int)
  (pss_cons (ps_set (i := 2) sc_levels.nd rfl (.inl rfl) pe_int)
  (pss_cons (ps_while PassesOwn.never (pt_cmpR op_le (pv 2) (pe_op op_add (pv 0) pe_int) (nomark _))
  (pss_cons (ps_aug (i := 1) sc_levels.nd rfl (.inl rfl) pe_int ip_add)
  (pss_one (ps_aug (i := 2) sc_levels.nd rfl (.inl rfl) pe_int ip_mul))))
  (pss_one (ps_ret (pv 1)))))), ?_⟩
    refine while_by (fun σ H' => ∃ d : Nat, σ = [some (.int n), some (.int (d : Int)), some (.int (2 ^ (d + 1)))] ∧ H' = H ∧ (2 : Int) ^ d ≤ n + 1)
      (fun σ _ => match σ with | [_, _, some (.int x)] => (n + 2 - x).toNat | _ => 0) ⟨0, rfl, rfl, by simpa using by omega⟩ ?_ ?_
    · rintro σ H' ⟨d, rfl, rfl, hd⟩
      refine ⟨_, rfl, _, rfl, _, _, rfl, rfl, _, _, rfl, rfl, _, rfl, ?_⟩
      refine ite2 (fun c => ?_) (fun c => ?_)
      · have c' : (2 : Int) ^ (d + 1) ≤ n + 1 := of_decide_eq_true c
        refine ⟨_, rfl, _, _, rfl, rfl, ?_⟩
        refine ⟨_, rfl, _, _, rfl, rfl, .inr ⟨by decide, by decide⟩, ⟨d + 1, ?_, rfl, c'⟩, ?_⟩
        · rw [two_succ' (d + 1)]
          rfl
        · show (n + 2 - 2 ^ (d + 1) * 2).toNat < (n + 2 - 2 ^ (d + 1)).toNat
          have := two_pos (d + 1)
          omega
      · have c' : ¬ (2 : Int) ^ (d + 1) ≤ n + 1 := fun z => c (decide_eq_true z)
        exact ⟨_, rfl, k d ⟨hd, by omega⟩⟩
    · rintro σ H' Q1 Q2 hq ⟨v, e, u, e2, i, j, e3, e4, x1, x2, e5, e6, b, e7, q⟩
      exact ⟨v, e, u, e2, i, j, e3, e4, x1, x2, e5, e6, b, e7, hq _ _ q⟩
def sp_law (K : PySem.W.Frag) : Sp := fun vs H Q _ => ∃ (a : Addr) (ns : List Int), vs = [.ref a] ∧ SqL K H a (ns.map V.int) ∧ ns.length ≤ 63 ∧ (∀ z ∈ ns, Builtin.Int.intBits z ≤ 1048576) ∧ ∀ H', Q (.bl true) H'
theorem lev_lt {n : Int} {d : Nat} (h : Lev n d) (hn : n + 1 < 2 ^ 141) : d ≤ 140 := by
  by_cases c : d ≤ 140
  · exact c
  · exfalso
    have := two_mono (show 141 ≤ d by omega)
    have := h.1
    omega
theorem ok_law (T : Txt K mg) : FnOk P w K mg base CX0 2 T.a_law T.d_law ["_law_script"] (sp_law K) := by
  have G_levels : FnOk P w K mg base CX0 1 _ _ _ _ := ok_levels T
  have G_l_whole : FnOk P w K mg base CX0 1 _ _ _ _ := ok_whole T
  have G_l_doubled : FnOk P w K mg base CX0 1 _ _ _ _ := ok_doubled T
  refine T.F_law.ok sc_law (fun vs H Q E h => ?_) (fun cdv A outer s H vs Q E hr h => ?_)
  · obtain ⟨a, ns, rfl, _⟩ := h
    rfl
  · obtain ⟨a, ns, rfl, hS, hlen, hb, k⟩ := h
    refine ⟨_, (pss_cons (ps_set (i := 1) sc_law.nd rfl (.inl rfl) pe_int)
  (C8.pss_cut (ps_if (pt_cmpR op_gt (pe_callB call_len_seq (by rfl) T.z_len PySem.boot_len (pa_cons (pv 0) pa_nil)) pe_int (nomark _))
  (pss_one (ps_set (i := 1) sc_law.nd rfl (.inl rfl) (pe_ix ix_list (pv 0) pe_int (fun _ _ => rfl))))
  pss_nil)
  (pss_cons (ps_set (i := 2) sc_law.nd rfl (.inl rfl) (pe_op (op_modK 70 (by decide)) (pe_op (op_fdivK 3 ⟨by decide, by decide⟩) (pv 1) pe_int) pe_int))
  (C8.pss_cut (ps_if (pt_cmpR op_eq (pe_op (op_modK 3 (by decide)) (pv 1) pe_int) pe_int (nomark _))
  (pss_one (ps_set (i := 2) sc_law.nd rfl (.inl rfl) (pe_callB (call_max2 rfl) (by rfl) T.z_max (by decide +kernel) (pa_cons pe_int (pa_cons (pe_op op_add (pe_op op_sub (pe_call G_l_doubled hr rfl T.g_l_doubled T.F_l_doubled.kp T.b_l_doubled .nil pass0 (pa_cons (pe_op (op_modK 131 (by decide)) (pe_op (op_fdivK 3 ⟨by decide, by decide⟩) (pv 1) pe_int) pe_int) pa_nil)) pe_int) (pe_op (op_modK 6 (by decide)) (pe_op (op_fdivK 393 ⟨by decide, by decide⟩) (pv 1) pe_int) pe_int)) pa_nil)))))
  pss_nil)
  (C8.pss_cut (ps_if (pt_cmpR op_eq (pe_op (op_modK 3 (by decide)) (pv 1) pe_int) pe_int (nomark _))
  (pss_one (ps_set (i := 2) sc_law.nd rfl (.inl rfl) (pe_op op_mod (pe_op op_mulB (pe_op (op_fdivK 3 ⟨by decide, by decide⟩) (pv 1) pe_int) (pe_op op_pow pe_int pe_int)) (pe_op op_pow pe_int pe_int))))
  pss_nil)
  (pss_cons (ps_set (i := 3) sc_law.nd rfl (.inl rfl) (pe_call G_levels hr rfl T.g_levels T.F_levels.kp T.b_levels .nil pass0 (pa_cons (pv 2) pa_nil)))
  (pss_cons (ps_if (PW.pt (pw_or (pt_not (pt_val (pe_call G_l_whole hr rfl T.g_l_whole T.F_l_whole.kp T.b_l_whole .nil pass0 (pa_cons (pv 3) pa_nil)))) (pw_or (pt_cmpR op_lt (pv 3) pe_int (nomark _)) (pw_or1 (pt_cmpR op_gt (pv 3) pe_int (nomark _))))))
  (pss_one (ps_ret pe_bl))
  pss_nil)
  (pss_cons (ps_set (i := 4) sc_law.nd rfl (.inl rfl) (pe_call G_l_doubled hr rfl T.g_l_doubled T.F_l_doubled.kp T.b_l_doubled .nil pass0 (pa_cons (pv 3) pa_nil)))
  (pss_one (ps_ret (pe_chain op_le op_lt (pv 4) (pe_op op_add (pv 2) pe_int) (pe_op op_add (pv 4) (pv 4))))))))))))), ?_⟩
    refine ⟨fun σ H' => ∃ c : Int, σ = [some (.ref a), some (.int c), none, none, none] ∧ H = H' ∧ Builtin.Int.intBits c ≤ 1048576, ?_, ?_⟩
    · refine ⟨_, rfl, a, ns.map V.int, rfl, .inl hS, _, _, rfl, rfl, _, rfl, ?_⟩
      refine ite2 (fun c => ?_) (fun c => ?_)
      · have h0 : 0 < ns.length := by
          have := of_decide_eq_true c
          rw [List.length_map] at this
          omega
        refine ⟨_, rfl, a, ns.map V.int, 0, .int ns[0], rfl, rfl, hS, atI_nat (j := 0) (by rw [List.getElem?_map, List.getElem?_eq_getElem h0]; rfl), ns[0], rfl, rfl, hb _ (List.getElem_mem h0)⟩
      · exact ⟨0, rfl, rfl, by decide⟩
    rintro σ H' ⟨c, rfl, rfl, hc⟩
    refine ⟨_, rfl, _, rfl, rfl, _, rfl, rfl, ?_⟩
    have m70 : 0 ≤ c / 3 % 70 ∧ c / 3 % 70 < 70 := ⟨Int.emod_nonneg _ (by decide), Int.emod_lt_of_pos _ (by decide)⟩
    refine ⟨fun σ H' => ∃ n : Int, σ = [some (.ref a), some (.int c), some (.int n), none, none] ∧ H = H' ∧ 0 ≤ n ∧ n + 1 < 2 ^ 141, ?_, ?_⟩
    · refine ⟨_, rfl, _, rfl, rfl, rfl, _, rfl, ?_⟩
      refine ite2 (fun _ => ?_) (fun _ => ?_)
      · have m131 : 0 ≤ c / 3 % 131 ∧ c / 3 % 131 < 131 := ⟨Int.emod_nonneg _ (by decide), Int.emod_lt_of_pos _ (by decide)⟩
        have m6 : 0 ≤ c / 393 % 6 ∧ c / 393 % 6 < 6 := ⟨Int.emod_nonneg _ (by decide), Int.emod_lt_of_pos _ (by decide)⟩
        refine ⟨_, rfl, _, rfl, rfl, _, rfl, rfl, (c / 3 % 131).toNat, ?_, by omega, _, _, rfl, rfl, _, rfl, _, rfl, rfl, _, rfl, rfl, _, _, rfl, rfl, _, _, rfl, ?_⟩
        · rw [Int.toNat_of_nonneg m131.1]
          rfl
        · refine ⟨_, rfl, rfl, ?_⟩
          have h1 := two_mono (show (c / 3 % 131).toNat ≤ 131 by omega)
          have h2 := two_pos (c / 3 % 131).toNat
          have e1 : (2 : Int) ^ 131 = 2722258935367507707706996859454145691648 := by decide
          have e2 : (2 : Int) ^ 141 = 2787593149816327892691964784081045188247552 := by decide
          rw [e1] at h1
          rw [e2]
          generalize (2 : Int) ^ (c / 3 % 131).toNat = p at h1 h2 ⊢
          split <;> omega
      · exact ⟨_, rfl, rfl, m70.1, by have e2 : (2 : Int) ^ 141 = 2787593149816327892691964784081045188247552 := by decide
                                      rw [e2]; omega⟩
    rintro σ H' ⟨n, rfl, rfl, hn, hn2⟩
    refine ⟨fun σ H' => ∃ n : Int, σ = [some (.ref a), some (.int c), some (.int n), none, none] ∧ H = H' ∧ 0 ≤ n ∧ n + 1 < 2 ^ 141, ?_, ?_⟩
    · refine ⟨_, rfl, _, rfl, rfl, rfl, _, rfl, ?_⟩
      refine ite2 (fun _ => ?_) (fun _ => ?_)
      · refine ⟨_, rfl, _, rfl, rfl, _, _, rfl, rfl, ⟨by decide, by decide, by decide⟩, _, _, rfl, rfl, ⟨bits_div (by decide) hc, by decide +kernel⟩, _, _, rfl, rfl, ⟨by decide, by decide, by decide⟩, _, _, rfl, rfl, (show (0 : Int) < 10 ^ (40 : Int).toNat by decide +kernel), ?_⟩
        refine ⟨_, rfl, rfl, Int.emod_nonneg _ (by decide +kernel), ?_⟩
        have h1 : c / 3 * 999999999989 ^ (4 : Int).toNat % 10 ^ (40 : Int).toNat < 10 ^ (40 : Int).toNat := Int.emod_lt_of_pos _ (by decide +kernel)
        have e1 : (10 : Int) ^ (40 : Int).toNat = 10000000000000000000000000000000000000000 := by decide +kernel
        have e2 : (2 : Int) ^ 141 = 2787593149816327892691964784081045188247552 := by decide
        rw [e1] at h1
        rw [e1, e2]
        omega
      · exact ⟨_, rfl, rfl, hn, hn2⟩
    clear hn hn2 m70
    rintro σ H' ⟨n, rfl, rfl, hn, hn2⟩
    refine ⟨_, rfl, n, rfl, hn, fun d hd => ?_⟩
    have hd140 := lev_lt hd hn2
    refine ⟨_, rfl, _, rfl, _, rfl, ?_⟩
    refine iteF ⟨_, rfl, _, _, rfl, rfl, _, rfl, t_no (by omega) ?_⟩
    refine ⟨_, rfl, _, _, rfl, rfl, _, rfl, t_no (by omega) ?_⟩
    refine ⟨_, rfl, d, rfl, by omega, ?_⟩
    refine ⟨_, rfl, _, rfl, _, _, rfl, rfl, _, _, rfl, rfl, _, rfl, t_yes hd.1 ?_⟩
    exact ⟨_, rfl, _, rfl, _, _, rfl, rfl, _, _, rfl, rfl, q_yes (by rw [← two_succ]; exact hd.2) (k _)⟩
end
theorem all_mk {l : PySem.W.OpenLaw} {w : World} {K : PySem.W.Frag} {h : Heap} {mg : Str → Option Value} {fa : Addr} (X : K.In h) (G : h.Ns mainGlobals mg) (hfa : mg "law" = some (.ref fa))
    {f_levels : Addr} {od_levels an_levels : Option Addr} {sl_levels : Array (Option Value)} {oc_levels kV_levels dc_levels pm_levels cd_levels ct_levels : Value}
    {f_l_whole : Addr} {od_l_whole an_l_whole : Option Addr} {sl_l_whole : Array (Option Value)} {oc_l_whole kV_l_whole dc_l_whole pm_l_whole cd_l_whole ct_l_whole : Value}
    {f_l_doubled : Addr} {od_l_doubled an_l_doubled : Option Addr} {sl_l_doubled : Array (Option Value)} {oc_l_doubled kV_l_doubled dc_l_doubled pm_l_doubled cd_l_doubled ct_l_doubled : Value}
    {f_law : Addr} {od_law an_law : Option Addr} {sl_law : Array (Option Value)} {oc_law kV_law dc_law pm_law cd_law ct_law : Value}
    (a_levels : PySem.W.nsIn K mainGlobals "levels" = some (some (.ref f_levels)))
    (l_levels : K.lookup f_levels = some ⟨oc_levels, od_levels, .func (PySem.W.fnOf "levels" "levels" (defArgs s_levels) (defBody s_levels) (defScope s_levels) .none kV_levels dc_levels pm_levels an_levels cd_levels ct_levels), sl_levels⟩)
    (c_levels : PySem.W.codeIn K cd_levels "levels" = true)
    (k_levels : PySem.W.keepIn K (.ref f_levels) = true)
    (a_l_whole : PySem.W.nsIn K mainGlobals "_law_whole" = some (some (.ref f_l_whole)))
    (l_l_whole : K.lookup f_l_whole = some ⟨oc_l_whole, od_l_whole, .func (PySem.W.fnOf "_law_whole" "_law_whole" (defArgs s_l_whole) (defBody s_l_whole) (defScope s_l_whole) .none kV_l_whole dc_l_whole pm_l_whole an_l_whole cd_l_whole ct_l_whole), sl_l_whole⟩)
    (c_l_whole : PySem.W.codeIn K cd_l_whole "_law_whole" = true)
    (k_l_whole : PySem.W.keepIn K (.ref f_l_whole) = true)
    (a_l_doubled : PySem.W.nsIn K mainGlobals "_law_doubled" = some (some (.ref f_l_doubled)))
    (l_l_doubled : K.lookup f_l_doubled = some ⟨oc_l_doubled, od_l_doubled, .func (PySem.W.fnOf "_law_doubled" "_law_doubled" (defArgs s_l_doubled) (defBody s_l_doubled) (defScope s_l_doubled) .none kV_l_doubled dc_l_doubled pm_l_doubled an_l_doubled cd_l_doubled ct_l_doubled), sl_l_doubled⟩)
    (c_l_doubled : PySem.W.codeIn K cd_l_doubled "_law_doubled" = true)
    (k_l_doubled : PySem.W.keepIn K (.ref f_l_doubled) = true)
    (a_law : PySem.W.nsIn K mainGlobals "law" = some (some (.ref f_law)))
    (l_law : K.lookup f_law = some ⟨oc_law, od_law, .func (PySem.W.fnOf "law" "law" (defArgs s_law) (defBody s_law) (defScope s_law) .none kV_law dc_law pm_law an_law cd_law ct_law), sl_law⟩)
    (c_law : PySem.W.codeIn K cd_law "law" = true)
    (k_law : PySem.W.keepIn K (.ref f_law) = true)
    (z_bool : PySem.W.nsIn K mainGlobals "bool" = some none)
    (z_int : PySem.W.nsIn K mainGlobals "int" = some none)
    (z_isinstance : PySem.W.nsIn K mainGlobals "isinstance" = some none)
    (z_len : PySem.W.nsIn K mainGlobals "len" = some none)
    (z_max : PySem.W.nsIn K mainGlobals "max" = some none)
    (z_range : PySem.W.nsIn K mainGlobals "range" = some none)
    : ∃ fd : FuncData, (∀ (s : Shared) (v : Value), BindsTo s fd ⟨[v], []⟩ [("_law_script", v)]) ∧ ∀ base : Heap, K.In base → base.Ns mainGlobals mg → FnOk l.prog w K mg base CX0 2 fa fd ["_law_script"] (sp_law K) := by
  have e := hfa.symm.trans (PySem.W.mg_of X G a_law)
  cases e
  have F_levels := fun_mk (st := s_levels) l_levels c_levels k_levels
  have b_levels := F_levels.binds (ps := ["number"]) fun _ _ _ _ _ _ us hl => match us, hl with | [_], _ => rfl
  have F_l_whole := fun_mk (st := s_l_whole) l_l_whole c_l_whole k_l_whole
  have b_l_whole := F_l_whole.binds (ps := ["_law_found"]) fun _ _ _ _ _ _ us hl => match us, hl with | [_], _ => rfl
  have F_l_doubled := fun_mk (st := s_l_doubled) l_l_doubled c_l_doubled k_l_doubled
  have b_l_doubled := F_l_doubled.binds (ps := ["_law_times"]) fun _ _ _ _ _ _ us hl => match us, hl with | [_], _ => rfl
  have F_law := fun_mk (st := s_law) l_law c_law k_law
  have b_law := F_law.binds (ps := ["_law_script"]) fun _ _ _ _ _ _ us hl => match us, hl with | [_], _ => rfl
  let T : Txt K mg := {
    a_levels := f_levels
    d_levels := _
    F_levels := F_levels
    b_levels := b_levels
    g_levels := PySem.W.mg_of X G a_levels
    a_l_whole := f_l_whole
    d_l_whole := _
    F_l_whole := F_l_whole
    b_l_whole := b_l_whole
    g_l_whole := PySem.W.mg_of X G a_l_whole
    a_l_doubled := f_l_doubled
    d_l_doubled := _
    F_l_doubled := F_l_doubled
    b_l_doubled := b_l_doubled
    g_l_doubled := PySem.W.mg_of X G a_l_doubled
    a_law := fa
    d_law := _
    F_law := F_law
    b_law := b_law
    g_law := PySem.W.mg_of X G a_law
    z_bool := PySem.W.mg_none_of X G z_bool
    z_int := PySem.W.mg_none_of X G z_int
    z_isinstance := PySem.W.mg_none_of X G z_isinstance
    z_len := PySem.W.mg_none_of X G z_len
    z_max := PySem.W.mg_none_of X G z_max
    z_range := PySem.W.mg_none_of X G z_range }
  exact ⟨_, fun s v => .of_eq rfl, fun base _ _ => ok_law T⟩
theorem walk {l : PySem.W.OpenLaw} {q : Program} {loose : List Str} {XP : (Str → Option Value) → Heap → Prop} {YP : World → Heap → Prop} {d : DefRec} {K : Params → PySem.W.Frag} (hn : l.most = some 63) (hdf : d.params.defaults = [])
    (hY : ∀ (w : World) (h : Heap), YP w h → (K w.params).In h)
    (F : ∀ (w : World) (mg : Str → Option Value) (fa : Addr) (h : Heap), (K w.params).In h → h.Ns mainGlobals mg → mg d.name = some (.ref fa) →
      ∃ fd : FuncData, (∀ (s : Shared) (u : Value), BindsTo s fd ⟨[u], []⟩ [("_law_script", u)]) ∧ ∀ base : Heap, (K w.params).In base → base.Ns mainGlobals mg → FnOk l.prog w (K w.params) mg base CX0 2 fa fd ["_law_script"] (sp_law (K w.params))) :
    PySem.W.WalkO q loose XP YP l.row.toRowW d [] (fun f vs => PySem.call f vs) :=
  L2.walk_ofB (n := 63) (k := 2) (x := "_law_script") (CX := fun _ => CX0) (sp := fun w => sp_law (K w.params)) hn (by decide) hdf ⟨rfl, by decide, by decide⟩ hY F (fun _ _ a ns hl hb _ hS => ⟨a, ns, rfl, hS, hl, hb, fun _ => rfl⟩) fun _ _ _ _ _ z => z
end Sp
open PySem PySem.W PyProof.Rows
set_option maxRecDepth 100000 in
set_option maxHeartbeats 0 in
theorem PySem.Challenge.cw_splitheap_k01_levels_holds : PySem.Challenge.rw_splitheap_k01_levels.Holds := by
  w_on; o_law; k_head; (case hw => w_witness2)
  k_fill
  refine Sp.walk (l := PySem.Challenge.rw_splitheap_k01_levels) rfl rfl (fun w h Y => PySem.W.kIn_of Y) ?F
  case F =>
    intro w mg fa h KX G hmg
    refine' Sp.all_mk KX G hmg ?a_levels ?l_levels ?c_levels ?k_levels ?a_l_whole ?l_l_whole ?c_l_whole ?k_l_whole ?a_l_doubled ?l_l_doubled ?c_l_doubled ?k_l_doubled ?a_law ?l_law ?c_law ?k_law ?z_bool ?z_int ?z_isinstance ?z_len ?z_max ?z_range
    (case a_levels => k_is)
    (case l_levels => k_is)
    (case c_levels => k_is)
    (case k_levels => k_is)
    (case a_l_whole => k_is)
    (case l_l_whole => k_is)
    (case c_l_whole => k_is)
    (case k_l_whole => k_is)
    (case a_l_doubled => k_is)
    (case l_l_doubled => k_is)
    (case c_l_doubled => k_is)
    (case k_l_doubled => k_is)
    (case a_law => k_is)
    (case l_law => k_is)
    (case c_law => k_is)
    (case k_law => k_is)
    (case z_bool => k_is)
    (case z_int => k_is)
    (case z_isinstance => k_is)
    (case z_len => k_is)
    (case z_max => k_is)
    (case z_range => k_is)

