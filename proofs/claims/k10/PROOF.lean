import PyProof.Rows.All
import Wide.All
import OpenK.AllK
import Wide.FinOn
import HandS.ForMost
import HandS.ForExc
import HandS.IsInst
import HandS.EndBits
import HandS.Codes
import HandS.TryMany
import HandS.FStr
import HandS.Small
import HandS.More
import HandS.Evl
import HandS.SortRule
import KE.DataMinMax
import HandS.Iter
import HandS.Rev
import HandS.SortInts
import HandS.TupLe
import HandS.Conv
import PySem.Challenge.RW_splitheap_k10_whole_trees
set_option Elab.async false
set_option linter.all false
set_option maxRecDepth 100000
set_option maxHeartbeats 4000000
namespace Sp
open PySem PySem.Spec L2
open PyProof.Rows (mul_int)
/-! ### small things -/
theorem ip_mul {X : Cx} : PIp X .Mult (fun x y H Q => ∃ i j, x = .int i ∧ y = .int j ∧ CMul i j ∧ Q (.int (i * j)) H) :=
  fun pins s σ H x y v u Q I r1 r2 h => iop_mul pins s σ H x y v u Q I r1 r2 h
theorem bits_le {x : Int} : Builtin.Int.intBits x ≤ x.natAbs.log2 + 1 := by
  unfold Builtin.Int.intBits
  split <;> omega
theorem bits_ge {x : Int} : x.natAbs.log2 ≤ Builtin.Int.intBits x := by
  unfold Builtin.Int.intBits
  split
  · rename_i h
    have e : x.natAbs = 0 := by
      first
        | exact Int.natAbs_eq_zero.mpr (by simpa using h)
        | (simp at h; exact Int.natAbs_eq_zero.mpr h)
        | omega
    rw [e]
    decide
  · omega
theorem log2_mono {a b : Nat} (h : a ≤ b) : a.log2 ≤ b.log2 := by
  by_cases ha : a = 0
  · subst ha
    have : Nat.log2 0 = 0 := by decide
    omega
  · have hb : b ≠ 0 := by omega
    exact (Nat.le_log2 hb).mpr (Nat.le_trans (Nat.log2_self_le ha) h)
theorem fdiv_abs (x : Int) {d : Int} (hd : 0 < d) : (x / d).natAbs ≤ x.natAbs := by
  by_cases hx : 0 ≤ x
  · have h3 : 0 ≤ x / d := Int.ediv_nonneg hx (by omega)
    have h4 : x / d ≤ x := Int.ediv_le_self d hx
    omega
  · have h3 : x / d < 0 := Int.ediv_neg_of_neg_of_pos (by omega) hd
    have h2 : x < (x / d + 1) * d := Int.lt_ediv_add_one_mul_self x hd
    have h4 : x ≤ x / d := by
      by_cases c : x ≤ x / d
      · exact c
      · exfalso
        have h8 : (x / d + 1) * d ≤ (x / d + 1) * 1 := Int.mul_le_mul_of_nonpos_left (by omega) (by omega)
        omega
    omega
/-- * of two factors of at most two million bits each -/
def CMulB (i j : Int) : Prop := Builtin.Int.intBits i ≤ 1048577 ∧ Builtin.Int.intBits j ≤ 1048577
theorem CMulB.ok {i j : Int} (h : CMulB i j) : IntMulOk i j := by
  have e : bitsLine = 134217728 := by decide
  unfold IntMulOk
  intro z
  rw [Bool.and_eq_true] at z
  have z2 := z.2
  unfold Builtin.Int.intTooBig at z2
  have z3 := of_decide_eq_true z2
  rw [e] at z3
  have := h.1
  have := h.2
  omega
theorem op_mulB {X : Cx} : OpR X (binaryOp .Mult) (rI CMulB fun i j => .int (i * j)) := opI fun _ _ _ _ _ _ _ hc q => mul_int q hc.ok
theorem bits_div {x d : Int} (hd : 0 < d) (h : Builtin.Int.intBits x ≤ 1048576) : Builtin.Int.intBits (x / d) ≤ 1048577 :=
  Nat.le_trans bits_le (Nat.succ_le_succ (Nat.le_trans (log2_mono (fdiv_abs x hd)) (Nat.le_trans bits_ge h)))
/-- // and % by a written number -/
def rModK (d : Int) : R2 := fun x y H Q => ∃ i, x = .int i ∧ y = .int d ∧ Q (.int (i % d)) H
def rDivK (d : Int) : R2 := fun x y H Q => ∃ i, x = .int i ∧ y = .int d ∧ Q (.int (i / d)) H
theorem op_modK {X : Cx} (d : Int) (hd : 0 < d) : OpR X (binaryOp .Mod) (rModK d) := fun pins s σ H x y v u Q I r1 r2 h => by
  obtain ⟨i, e1, e2, q⟩ := h
  exact op_mod pins s σ H x y v u Q I r1 r2 ⟨i, d, e1, e2, hd, q⟩
theorem op_fdivK {X : Cx} (d : Int) (hd : 0 < d ∧ d < 1073741824) : OpR X (binaryOp .FloorDiv) (rDivK d) := fun pins s σ H x y v u Q I r1 r2 h => by
  obtain ⟨i, e1, e2, q⟩ := h
  exact op_fdiv pins s σ H x y v u Q I r1 r2 ⟨i, d, e1, e2, hd, q⟩
/-- a test that holds, that does not -/
theorem q_yes {p : Prop} [Decidable p] {Q : VK} {H : Hp} (h : p) (q : Q (.bl true) H) : Q (.bl (decide p)) H := by
  rw [decide_eq_true h]
  exact q
theorem q_no {p : Prop} [Decidable p] {Q : VK} {H : Hp} (h : ¬ p) (q : Q (.bl false) H) : Q (.bl (decide p)) H := by
  rw [decide_eq_false h]
  exact q
theorem t_yes {p A B : Prop} [Decidable p] (h : p) (q : A) : if decide p = true then A else B := by
  rw [decide_eq_true h]
  exact iteT q
theorem t_no {p A B : Prop} [Decidable p] (h : ¬ p) (q : B) : if decide p = true then A else B := by
  rw [decide_eq_false h]
  exact iteF q
/-- both ways of a test -/
theorem t_2 {p A B : Prop} [Decidable p] (h1 : p → A) (h2 : ¬ p → B) : if decide p = true then A else B := by
  by_cases h : p
  · exact t_yes h (h1 h)
  · exact t_no h (h2 h)
theorem val_at {ns : List Int} {i : Nat} {y : V} (h : (ns.map V.int)[i]? = some y) : ∃ z, ns[i]? = some z ∧ y = V.int z := by
  rw [List.getElem?_map] at h
  cases e : ns[i]? with
  | none =>
    rw [e] at h
    cases h
  | some z =>
    rw [e] at h
    exact ⟨z, rfl, (Option.some.inj h).symm⟩
/-! ### rules of my own -/
section
variable {X : Cx} {o : Expr} {f : Str} {pos : Pos} {to : TE}
/-- o.f as a target -/
def gFld (K : PySem.W.Frag) (to : TE) (f : Str) : TG := fun y σ H Q => to σ H fun x H2 => ∃ a C dx fs, x = .ref a ∧ H2 a = some (.ins C dx fs) ∧ Cls K C ∧ NoAttr K C f ∧ fs.length < 1000 ∧ Q σ (upd H2 a (.ins C dx (putF f y fs)))
theorem pg_fld (ho : PE X o to) : PG X (.Attribute o f pos) (gFld X.K to f) := by
  refine ⟨fun pins s σ H v u Q I rv hw => ?_⟩
  rw [PySem.assign_Attribute]
  refine PySem.wpAny_bind (PySem.wpAny_holding (thn (ho.run pins s σ H _ I hw) fun ov s1 hz => ?_))
  obtain ⟨x, H2, I2, rx, a, C, dx, fs, ex, ea, cl, na, hl, q⟩ := hz
  subst ex
  obtain rfl : ov = Value.ref a := rx
  refine PySem.wpAny_bind (PySem.wpAny_standAt (PySem.wpAny_bind (PySem.wpAny_holding (setattr_ok I2 ea cl na hl rv fun s3 I3 => ?_))))
  exact PySem.wpAny_release ⟨σ, _, I3, q⟩
theorem pe_fldK {K : PySem.W.Frag} {te : TE} (hK : X.K = K) (he : PE X o te) (hb : attributeBase o f X.env (eval o X.env) = eval o X.env) : PE X (.Attribute o f pos) (tFld K te f) := by
  subst hK
  exact pe_fld he hb
theorem ix_listK {K : PySem.W.Frag} (hK : X.K = K) : IxR X (rIxL K) := by
  subst hK
  exact ix_list
theorem ix_tupK {K : PySem.W.Frag} (hK : X.K = K) : IxR X (rIxT K) := by
  subst hK
  exact ix_tup
end
/-! ### o.m(e, ..) in a try's body: what it raises is told with the slots as they stand -/
def tMethS (m : Str) (C : Addr) (sp : Sp) (E : L2.St → XK) (ta : TE) (t : TA) : TE := fun σ H Q => ta σ H fun x H1 => ∃ a dx fs, x = .ref a ∧ H1 a = some (.ins C dx fs) ∧ fs.lookup m = none ∧ t σ H1 fun vs H2 => sp (.ref a :: vs) H2 Q (E σ)
section
variable {X : Cx} {CX : CXT} {k : Nat} {f C : Addr} {fd : FuncData} {ps : List Str} {sp : Sp} {E : L2.St → XK} {m : Str} {pos apos : Pos} {o e : Expr} {es : List Expr} {ta : TE} {t : TA}
theorem pe_methT {pl : Sem Bool} (he : PE X o ta) (c : Cls X.K C) (hm : Meth X.K C m f) (F : FnOk X.prog X.w X.K X.mg X.base CX k f fd ps sp) (hr : Room k X.A) (hb : Binds X.K fd ps []) (hx : ∀ σ, PassesAt CX X σ (E σ)) (ha : PA X (e :: es) t)
    (hst : starEach (e :: es) X.env = (false, eval e X.env) :: starEach es X.env := by rfl) (hpl : (backTo pos (starEach es X.env)).any (·.1) = false := by rfl)
    (ht : eval (.Call (.Attribute o m apos) (e :: es) [] pos) X.env = (do
      let ov ← eval o X.env
      standAt apos.atName
      let (f, first) ← holding [ov] (getMethod ov m pl)
      callWith pos f first (backTo pos (starEach (e :: es) X.env)) (backToKw pos (keywordEach [] X.env))) := by rfl) :
    PE X (.Call (.Attribute o m apos) (e :: es) [] pos) (tMethS m C sp E ta t) := by
  refine ⟨fun pins s σ H Q I h => ?_⟩
  refine PySem.W.methodCall_KW (pl := pl) (thn (he.run pins s σ H _ I h) fun u s1 ⟨x, H1, I1, rx, a, dx, fs, ex, ea, l, q⟩ => ?_) ht
  subst ex
  obtain rfl : u = Value.ref a := rx
  refine getmeth_ok I1 ea c hm l ?_
  refine PySem.W.callWith_K (first := [.ref a]) (h₀ := X.base) I.ok.mod.kin hm.kp (thn (ha.run pos pins s1 σ H1 _ I1 q) fun us s2 ⟨vs, H2, I2, r, q2⟩ => ⟨I2.kIn, ?_⟩) hst hpl
  exact run_fnS (us := .ref a :: us) (vs := .ref a :: vs) F hr hb (hx σ) I2 (.cons rfl r) q2
end
theorem op_eqDK {X : Cx} {K : PySem.W.Frag} (hK : X.K = K) (hu : X.A.units + 64 < cLine) : OpR X (compareOp .Eq) (rEqD K) := by
  subst hK
  exact op_eqD hu
theorem op_neDK {X : Cx} {K : PySem.W.Frag} (hK : X.K = K) (hu : X.A.units + 64 < cLine) : OpR X (compareOp .NotEq) (rNeD K) := by
  subst hK
  exact op_neD hu
/-- what a clause of the own class D says of an own class C -/
theorem exm_of {K : PySem.W.Frag} {C D : Addr} {b : Bool} (h1 : PySem.W.subIn K (.ref D) (.type "BaseException") = some true) (h2 : PySem.W.isClsIn K D = true) (h3 : PySem.W.typeIn K (.ref D) = some (.type "type")) (h4 : PySem.W.subIn K (.ref C) (.ref D) = some b) : PySem.W.exmOne K (.ref C) (.ref D) = some b := by
  have e1 : (PySem.W.subIn K (.ref D) (.type "BaseException") == some true) = true := by rw [h1] <;> rfl
  have h2' : (PySem.W.clsIn K D).isSome = true := h2
  unfold PySem.W.exmOne PySem.W.kitCls
  rw [if_pos e1]
  have e2 : ((PySem.W.clsIn K D).isSome && PySem.W.typeIn K (.ref D) == some (.type "type")) = true := by rw [h2', h3] <;> rfl
  first
    | exact (if_pos e2).trans h4
    | (rw [if_pos e2]; exact h4)
theorem call_len_seqK {X : Cx} {K : PySem.W.Frag} (hK : X.K = K) : CallR X (.builtin "len") (fun xs H Q => ∃ p ys, xs = [.ref p] ∧ (SqL K H p ys ∨ SqT K H p ys) ∧ Q (.int ys.length) H) := by
  subst hK
  exact call_len_seq
/-! ### min of a list of pairs of ints -/
theorem best_least {α : Type} {lt : α → α → Bool} (O : SrtO.Swo lt) (f : Nat → α) : ∀ k : Nat, argBest (fun i j => lt (f i) (f j)) k ≤ k ∧ ∀ j, j ≤ k → lt (f j) (f (argBest (fun i j => lt (f i) (f j)) k)) = false
  | 0 => ⟨Nat.le_refl _, fun j hj => by
    rw [Nat.le_zero.mp hj]
    exact O.refl _⟩
  | k + 1 => by
    obtain ⟨h1, h2⟩ := best_least O f k
    by_cases hb : lt (f (k + 1)) (f (argBest (fun i j => lt (f i) (f j)) k)) = true
    · have ea : argBest (fun i j => lt (f i) (f j)) (k + 1) = k + 1 := if_pos hb
      rw [ea]
      refine ⟨Nat.le_refl _, fun j hj => ?_⟩
      by_cases c : j = k + 1
      · rw [c]
        exact O.refl _
      · exact O.tr _ _ _ (O.asym _ _ hb) (h2 j (by omega))
    · have ea : argBest (fun i j => lt (f i) (f j)) (k + 1) = argBest (fun i j => lt (f i) (f j)) k := if_neg hb
      rw [ea]
      refine ⟨by omega, fun j hj => ?_⟩
      by_cases c : j = k + 1
      · rw [c]
        exact Bool.eq_false_iff.mpr hb
      · exact h2 j (by omega)
theorem lex_pair (p q : Int × Int) : HT.lexLt [p.1, p.2] [q.1, q.2] = SrtO.lexB p q := by
  rw [HT.lexLt_cons, HT.lexLt_cons, HT.lexLt_nil_nil]
  unfold SrtO.lexB
  by_cases c : p.1 = q.1
  · rw [if_pos c, if_pos c]
    by_cases c2 : p.2 = q.2
    · rw [if_pos c2, c2]
      exact (decide_eq_false (Int.lt_irrefl _)).symm
    · rw [if_neg c2]
  · rw [if_neg c, if_neg c]
/-- an item is a pair, as k tells it -/
abbrev PairV (H : Hp) (k : V → Int × Int) (x : V) : Prop := ∃ t, x = V.ref t ∧ H t = some (.tup [.int (k x).1, .int (k x).2])
def rMinP (K : PySem.W.Frag) : List V → Hp → VK → Prop := fun vs H Q => ∃ (a : Addr) (xs : List V) (k : V → Int × Int), vs = [V.ref a] ∧ SqL K H a xs ∧ xs ≠ [] ∧ (∀ x ∈ xs, PairV H k x) ∧ ∀ m ∈ xs, (∀ y ∈ xs, SrtO.lexB (k y) (k m) = false) → Q m H
theorem cr_minP {X : Cx} (hc : X.calm = true) (hu : X.A.units + 64 < cLine) : CallR X (.builtin "min") (rMinP X.K) := by
  intro pins s σ H vs us Q I r h
  obtain ⟨a, xs, k, rfl, hs, hne, hx, q⟩ := h
  obtain ⟨its, rv, hl, hz⟩ := I.list hs
  rw [Vals.ref1 r]
  obtain ⟨e1, e2⟩ := refs_back rv fun x m => by
    obtain ⟨t, e, _⟩ := hx x m
    exact ⟨t, e⟩
  have hlen : its.length = xs.length := by rw [e1, List.length_map]
  have hpos : 0 < xs.length := List.length_pos_iff.mpr hne
  have item : ∀ (i : Nat) (v : Value), its.toArray[i]? = some v → ∃ t, v = Value.ref t ∧ xs[i]? = some (V.ref t) := fun i v hi => by
    rw [List.getElem?_toArray] at hi
    obtain ⟨t, rfl⟩ := e2 v (List.mem_of_getElem? hi)
    refine ⟨t, rfl, ?_⟩
    rw [e1, List.getElem?_map, hi]
    rfl
  have tup : ∀ (i : Nat) (t : Addr), xs[i]? = some (V.ref t) → ∃ its2 : List Value, PyProof.Rows.IsTup s.heap t its2.toArray ∧ PyProof.Rows.IntsAre its2.toArray.toList [(k (xs.getD i .non)).1, (k (xs.getD i .non)).2] := fun i t hi => by
    obtain ⟨t', e, ht⟩ := hx _ (List.mem_of_getElem? hi)
    cases e
    have e3 : xs.getD i .non = V.ref t := by
      rw [List.getD_eq_getElem?_getD, hi]
      rfl
    obtain ⟨its2, r2, p2, _⟩ := I.tuple (SqT.of (K := X.K) ht)
    refine ⟨its2, p2, ?_⟩
    rw [e3]
    exact intsAre_of (ns := [(k (V.ref t)).1, (k (V.ref t)).2]) r2
  refine PySem.call_min_walkH (PySem.W.iter_listW (A := X.A.in1) (I.ok.hd hc) hl.isList fun s₂ e W st hfp hw hk => ?_)
  refine ⟨_, _, _, _, _, _, _, s.heap, fun i j => SrtO.lexB (k (xs.getD i .non)) (k (xs.getD j .non)), rfl, W, st, hfp, ?_, hw, hk, ?_, fun v s' hP m => ?_⟩
  · rw [List.size_toArray, hlen]
    exact hpos
  · intro i j vi vj s' Q' E' hk' hi hj hq
    obtain ⟨t1, rfl, h1⟩ := item i vi hi
    obtain ⟨t2, rfl, h2⟩ := item j vj hj
    obtain ⟨is1, ⟨o1, ho1, p1⟩, i1⟩ := tup i t1 h1
    obtain ⟨is2, ⟨o2, ho2, p2⟩, i2⟩ := tup j t2 h2
    have hun : X.A.in1.units < cLine := by
      show X.A.units + 1 < cLine
      omega
    refine HT.lt_tupInts (l := t1) (b := t2) ⟨o1, hk' _ _ ho1, p1⟩ ⟨o2, hk' _ _ ho2, p2⟩ i1 i2 hun ?_
    rw [lex_pair]
    exact hq
  · obtain ⟨h', tk, rfl, hk'⟩ := PySem.W.moved_old e rfl m
    obtain ⟨b1, b2⟩ := best_least (α := V) (SrtO.Swo.mk (fun x y h => (ltP_swo k).asym x y h) (fun x y z h1 h2 => (ltP_swo k).tr x y z h1 h2)) (fun i => xs.getD i .non) (its.toArray.size - 1)
    obtain ⟨t, rfl, ht⟩ := item _ v hP
    refine ⟨.ref t, H, I.kept hk', rfl, q _ (List.mem_of_getElem? ht) fun y hy => ?_⟩
    obtain ⟨j, hj⟩ := List.mem_iff_getElem?.mp hy
    have hj2 := (List.getElem?_eq_some_iff.mp hj).1
    have e4 : its.toArray.size - 1 = xs.length - 1 := by rw [List.size_toArray, hlen]
    have z := b2 j (by omega)
    have e5 : xs.getD j .non = y := by
      rw [List.getD_eq_getElem?_getD, hj]
      rfl
    have e6 : ∀ i, xs[i]? = some (V.ref t) → xs.getD i .non = V.ref t := fun i h => by
      rw [List.getD_eq_getElem?_getD, h]
      rfl
    have z2 : SrtO.lexB (k (xs.getD j .non)) (k (xs.getD _ .non)) = false := z
    rw [e5, e6 _ ht] at z2
    exact z2
/-! ### == of instances whose class has no __eq__ of its own, and of None with such -/
section
open PyProof.Rows PySem.SeqAt
variable {M : Model} {prog : Program} {w : World} {A : Around} {E : Value → Shared → Prop} {s : Shared} {K : PySem.W.Frag} {x y C : Addr} {ox oy : Obj} {od od' : Option Obj}
theorem own_eq_call {z : Value} {Q : Value → Shared → Prop} (X : K.In s.heap) (J : PySem.W.InstAt s.heap x ox C od) (hm : PySem.W.mroIn K C (.type "object") = some true)
    (he : ∀ A : Around, wpAny (model prog w) A (Builtin.«object.__eq__» ⟨[.ref x, z], []⟩) (fun f s' => ∃ v, f = .done (.ret v) ∧ Q v s') (fun _ _ => False) s) : wpAny (model prog w) A (call (.builtin "object.__eq__") [.ref x, z]) Q E s := by
  refine wpAny_call (codeAny_call_builtin F.cmp_object.eq.plain F.cmpEntry_eq (PySem.W.check_slot F.cmpKind_eq F.cmpSplit_eq (J.type.andThen (PySem.W.looks_mroIn X hm)) (F.cmpArgs_eq _ _) ?_))
  refine wpAny_mono (he _) (fun f s' hf => ?_) (fun _ _ z => z.elim)
  obtain ⟨v, rfl, q⟩ := hf
  exact q
theorem own_try_same (X : K.In s.heap) (J : PySem.W.InstAt s.heap x ox C od) (hm : PySem.W.mroIn K C (.type "object") = some true) (hs : PySem.W.findIn K (.ref C) "__eq__" = some (some (.builtin "object.__eq__"))) :
    wpAny (model prog w) A (tryCompare (.ref x) "__eq__" (.ref x)) (fun r s' => r = some (.bool true) ∧ s' = s) E s := by
  unfold tryCompare
  exact wpAny_bind (HN.ifBound_objEq X J hs (own_eq_call X J hm fun A => objEq_entry_same ⟨_, rfl, wpAny_pure ⟨rfl, rfl⟩⟩))
theorem own_try_other (hxy : x ≠ y) (X : K.In s.heap) (J : PySem.W.InstAt s.heap x ox C od) (hy : s.heap.get? y = some oy) (hm : PySem.W.mroIn K C (.type "object") = some true) (hs : PySem.W.findIn K (.ref C) "__eq__" = some (some (.builtin "object.__eq__"))) :
    wpAny (model prog w) A (tryCompare (.ref x) "__eq__" (.ref y)) (fun r s' => r = none ∧ s' = s) E s := by
  unfold tryCompare
  have hnt : ox.cls ≠ .type "tuple" := by
    rw [J.cls]
    intro z
    cases z
  exact wpAny_bind (HN.ifBound_objEq X J hs (own_eq_call X J hm fun A => objEq_entry_other hxy J.at_ hy hnt ⟨_, rfl, wpAny_pure ⟨rfl, rfl⟩⟩))
theorem own_try_none (X : K.In s.heap) (J : PySem.W.InstAt s.heap x ox C od) (hm : PySem.W.mroIn K C (.type "object") = some true) (hs : PySem.W.findIn K (.ref C) "__eq__" = some (some (.builtin "object.__eq__"))) :
    wpAny (model prog w) A (tryCompare (.ref x) "__eq__" .none) (fun r s' => r = none ∧ s' = s) E s := by
  unfold tryCompare
  exact wpAny_bind (HN.ifBound_objEq X J hs (own_eq_call X J hm fun A => HN.entry_none ⟨_, rfl, wpAny_pure ⟨rfl, rfl⟩⟩))
theorem own_none_try : wpAny (model prog w) A (tryCompare .none "__eq__" (.ref x)) (fun r s' => r = none ∧ s' = s) E s :=
  wpAny_tryCompare_declines (show s.TypeIs .none "NoneType" from rfl) F.slot_NoneType_eq_refl (call_gives F.slot_NoneType_eq_refl rfl F.entry_NoneType_eq (F.args_NoneType_eq_2 _ _) (NoneType___eq___none_ref_0 x) ⟨rfl, rfl, rfl⟩)
theorem own_eq_same (hu : A.units < cLine) (X : K.In s.heap) (J : PySem.W.InstAt s.heap x ox C od) (hm : PySem.W.mroIn K C (.type "object") = some true) (hs : PySem.W.findIn K (.ref C) "__eq__" = some (some (.builtin "object.__eq__"))) {Q : Value → Shared → Prop} (q : Q (.bool true) s) :
    wpAny (model prog w) A (compareOp .Eq (.ref x) (.ref x)) Q E s := by
  show wpAny _ _ (richCompare .Eq (.ref x) (.ref x)) _ _ _
  simp only [richCompare, cmpInfo_Eq, oneThing_ref]
  refine wpAny_holding (wpAny_bind (wpAny_cRoomFor hu ?_))
  refine wpAny_bind (J.type.here (wpAny_bind (J.type.here ?_)))
  rw [if_neg (by simp)]
  refine wpAny_bind (wpAny_pure ?_)
  simp only [Bool.false_eq_true, if_false]
  refine wpAny_bind (m := tryCompare (.ref x) _ (.ref x)) (wpAny_mono (own_try_same X J hm hs) (fun r s1 z => ?_) fun _ _ e => e)
  obtain ⟨rfl, rfl⟩ := z
  exact wpAny_pure q
theorem own_eq_other (hxy : x ≠ y) (hu : A.units < cLine) (X : K.In s.heap) (J : PySem.W.InstAt s.heap x ox C od) (J' : PySem.W.InstAt s.heap y oy C od') (hm : PySem.W.mroIn K C (.type "object") = some true) (hs : PySem.W.findIn K (.ref C) "__eq__" = some (some (.builtin "object.__eq__"))) {Q : Value → Shared → Prop} (q : Q (.bool false) s) :
    wpAny (model prog w) A (compareOp .Eq (.ref x) (.ref y)) Q E s := by
  show wpAny _ _ (richCompare .Eq (.ref x) (.ref y)) _ _ _
  simp only [richCompare, cmpInfo_Eq, oneThing_ref]
  refine wpAny_holding (wpAny_bind (wpAny_cRoomFor hu ?_))
  refine wpAny_bind (J.type.here (wpAny_bind (J'.type.here ?_)))
  rw [if_neg (by simp)]
  refine wpAny_bind (wpAny_pure ?_)
  simp only [Bool.false_eq_true, if_false, Bool.not_false, if_true]
  refine wpAny_bind (m := tryCompare (.ref x) _ (.ref y)) (wpAny_mono (own_try_other hxy X J J'.at_ hm hs) (fun r s1 z => ?_) fun _ _ e => e)
  obtain ⟨rfl, rfl⟩ := z
  refine wpAny_bind (m := tryCompare (.ref y) _ (.ref x)) (wpAny_mono (own_try_other (Ne.symm hxy) X J' J.at_ hm hs) (fun r s1 z => ?_) fun _ _ e => e)
  obtain ⟨rfl, rfl⟩ := z
  have hnt : ox.cls ≠ .type "tuple" := by
    rw [J.cls]
    intro z
    cases z
  exact wpAny_bind (wpAny_rule (wpAny_bind (wpAny_isSame_ref_other hxy J.at_ J'.at_ hnt (wpAny_pure q))))
theorem none_eq_own (hu : A.units < cLine) (X : K.In s.heap) (J : PySem.W.InstAt s.heap x ox C od) (hm : PySem.W.mroIn K C (.type "object") = some true) (hs : PySem.W.findIn K (.ref C) "__eq__" = some (some (.builtin "object.__eq__")))
    (hn : PySem.W.subIn K (.ref C) (.type "NoneType") = some false) {Q : Value → Shared → Prop} (q : Q (.bool false) s) :
    wpAny (model prog w) A (compareOp .Eq .none (.ref x)) Q E s := by
  show wpAny _ _ (richCompare .Eq .none (.ref x)) _ _ _
  simp only [richCompare, cmpInfo_Eq]
  refine wpAny_holding (wpAny_bind (wpAny_cRoomFor hu ?_))
  refine wpAny_bind (wpAny_typeOf (show s.TypeIs .none "NoneType" from rfl) (wpAny_bind (J.type.here ?_)))
  rw [if_pos (by simp)]
  refine wpAny_bind ((PySem.W.looks_subIn X hn).here ?_)
  simp only [Bool.false_eq_true, if_false, Bool.not_false, if_true]
  refine wpAny_bind (m := tryCompare .none _ (.ref x)) (wpAny_mono own_none_try (fun r s1 z => ?_) fun _ _ e => e)
  obtain ⟨rfl, rfl⟩ := z
  refine wpAny_bind (m := tryCompare (.ref x) _ .none) (wpAny_mono (own_try_none X J hm hs) (fun r s1 z => ?_) fun _ _ e => e)
  obtain ⟨rfl, rfl⟩ := z
  exact wpAny_bind (wpAny_rule (wpAny_bind (wpAny_of_eq (rfl : isSame .none (.ref x) = pure false) (wpAny_pure q))))
end
/-- what == asks of the class at C -/
structure PlainEq (K : PySem.W.Frag) (C : Addr) : Prop where
  ob : PySem.W.mroIn K C (.type "object") = some true
  eq : PySem.W.findIn K (.ref C) "__eq__" = some (some (.builtin "object.__eq__"))
  no : PySem.W.subIn K (.ref C) (.type "NoneType") = some false
def rEqI (K : PySem.W.Frag) : R2 := fun x y H Q => ∃ (b C dx : Addr) (fs : List (Str × V)), y = .ref b ∧ H b = some (.ins C dx fs) ∧ PlainEq K C ∧ (x = .non ∨ ∃ (a dx' : Addr) (fs' : List (Str × V)), x = .ref a ∧ H a = some (.ins C dx' fs')) ∧ Q (.bl (decide (x = y))) H
theorem op_eqI {X : Cx} (hu : X.A.units < cLine) : OpR X (compareOp .Eq) (rEqI X.K) := by
  intro pins s σ H x y v u Q I rx ry h
  obtain ⟨b, C, dx, fs, rfl, hb, pe, hx, q⟩ := h
  obtain rfl : u = Value.ref b := ry
  obtain ⟨mA, O, _⟩ := ins_get I.hok hb
  obtain ⟨od, J, _⟩ := O.look
  rcases hx with rfl | ⟨a, dx', fs', rfl, ha⟩
  · obtain rfl : v = Value.none := rx
    refine none_eq_own hu I.kIn J pe.ob pe.eq pe.no ⟨.bl false, H, I, rfl, ?_⟩
    rw [decide_eq_false (by intro z; cases z)] at q
    exact q
  · obtain rfl : v = Value.ref a := rx
    obtain ⟨mA', O', _⟩ := ins_get I.hok ha
    obtain ⟨od', J', _⟩ := O'.look
    by_cases e : a = b
    · subst e
      refine own_eq_same hu I.kIn J pe.ob pe.eq ⟨.bl true, H, I, rfl, ?_⟩
      rw [decide_eq_true rfl] at q
      exact q
    · refine own_eq_other e hu I.kIn J' J pe.ob pe.eq ⟨.bl false, H, I, rfl, ?_⟩
      rw [decide_eq_false (by intro z; injection z with z; exact e z)] at q
      exact q
def topS (i : Nat) : Stmt := PySem.Challenge.pw_splitheap_k10_whole_trees.main.body.getD i (.Pass ⟨0, 0, 0, 0⟩)
abbrev s_Node_init : Stmt := inClass (topS 9) 0
abbrev N_Node_init : List Str := ["self", "thing", "weight", "home"]
theorem sc_Node_init : FnScope N_Node_init ["self", "thing", "weight", "home"] (defScope s_Node_init) := ⟨rfl, rfl, rfl, by decide +kernel, rfl, by decide +kernel, by decide +kernel⟩
abbrev s_lesser : Stmt := topS 10
abbrev N_lesser : List Str := ["one", "other"]
theorem sc_lesser : FnScope N_lesser ["one", "other"] (defScope s_lesser) := ⟨rfl, rfl, rfl, by decide +kernel, rfl, by decide +kernel, by decide +kernel⟩
abbrev s_run_of : Stmt := topS 11
abbrev N_run_of : List Str := ["top"]
theorem sc_run_of : FnScope N_run_of ["top"] (defScope s_run_of) := ⟨rfl, rfl, rfl, by decide +kernel, rfl, by decide +kernel, by decide +kernel⟩
abbrev s_thing_of : Stmt := topS 12
abbrev N_thing_of : List Str := ["top"]
theorem sc_thing_of : FnScope N_thing_of ["top"] (defScope s_thing_of) := ⟨rfl, rfl, rfl, by decide +kernel, rfl, by decide +kernel, by decide +kernel⟩
abbrev s_settle : Stmt := topS 13
abbrev N_settle : List Str := ["node"]
theorem sc_settle : FnScope N_settle ["node"] (defScope s_settle) := ⟨rfl, rfl, rfl, by decide +kernel, rfl, by decide +kernel, by decide +kernel⟩
abbrev s_meet : Stmt := topS 14
abbrev N_meet : List Str := ["one", "other", "below", "meetings"]
theorem sc_meet : FnScope N_meet ["one", "other"] (defScope s_meet) := ⟨rfl, rfl, rfl, by decide +kernel, rfl, by decide +kernel, by decide +kernel⟩
abbrev s_joined : Stmt := topS 15
abbrev N_joined : List Str := ["one", "other", "top", "meetings"]
theorem sc_joined : FnScope N_joined ["one", "other"] (defScope s_joined) := ⟨rfl, rfl, rfl, by decide +kernel, rfl, by decide +kernel, by decide +kernel⟩
abbrev s_cut_out : Stmt := topS 16
abbrev N_cut_out : List Str := ["node", "above", "looked_at", "run_ahead"]
theorem sc_cut_out : FnScope N_cut_out ["node"] (defScope s_cut_out) := ⟨rfl, rfl, rfl, by decide +kernel, rfl, by decide +kernel, by decide +kernel⟩
abbrev s_in_order : Stmt := topS 17
abbrev N_in_order : List Str := ["top", "nodes", "waiting", "node"]
theorem sc_in_order : FnScope N_in_order ["top"] (defScope s_in_order) := ⟨rfl, rfl, rfl, by decide +kernel, rfl, by decide +kernel, by decide +kernel⟩
abbrev s_Field_init : Stmt := inClass (topS 19) 0
abbrev N_Field_init : List Str := ["self"]
theorem sc_Field_init : FnScope N_Field_init ["self"] (defScope s_Field_init) := ⟨rfl, rfl, rfl, by decide +kernel, rfl, by decide +kernel, by decide +kernel⟩
abbrev s_Field_heap : Stmt := inClass (topS 19) 1
abbrev N_Field_heap : List Str := ["self"]
theorem sc_Field_heap : FnScope N_Field_heap ["self"] (defScope s_Field_heap) := ⟨rfl, rfl, rfl, by decide +kernel, rfl, by decide +kernel, by decide +kernel⟩
abbrev s_Field_put : Stmt := inClass (topS 19) 2
abbrev N_Field_put : List Str := ["self", "heap", "weight", "node"]
theorem sc_Field_put : FnScope N_Field_put ["self", "heap", "weight"] (defScope s_Field_put) := ⟨rfl, rfl, rfl, by decide +kernel, rfl, by decide +kernel, by decide +kernel⟩
abbrev s_Field_least : Stmt := inClass (topS 19) 3
abbrev N_Field_least : List Str := ["self", "heap", "top"]
theorem sc_Field_least : FnScope N_Field_least ["self", "heap"] (defScope s_Field_least) := ⟨rfl, rfl, rfl, by decide +kernel, rfl, by decide +kernel, by decide +kernel⟩
abbrev s_Field_take : Stmt := inClass (topS 19) 4
abbrev N_Field_take : List Str := ["self", "heap", "top"]
theorem sc_Field_take : FnScope N_Field_take ["self", "heap"] (defScope s_Field_take) := ⟨rfl, rfl, rfl, by decide +kernel, rfl, by decide +kernel, by decide +kernel⟩
abbrev s_Field_pour : Stmt := inClass (topS 19) 5
abbrev N_Field_pour : List Str := ["self", "heap", "other", "poured", "node"]
theorem sc_Field_pour : FnScope N_Field_pour ["self", "heap", "other"] (defScope s_Field_pour) := ⟨rfl, rfl, rfl, by decide +kernel, rfl, by decide +kernel, by decide +kernel⟩
abbrev s_Field_sink : Stmt := inClass (topS 19) 6
abbrev N_Field_sink : List Str := ["self", "thing", "weight", "node", "looked_at"]
theorem sc_Field_sink : FnScope N_Field_sink ["self", "thing", "weight"] (defScope s_Field_sink) := ⟨rfl, rfl, rfl, by decide +kernel, rfl, by decide +kernel, by decide +kernel⟩
abbrev s_Field_things : Stmt := inClass (topS 19) 9
abbrev N_Field_things : List Str := ["self", "heap"]
theorem sc_Field_things : FnScope N_Field_things ["self", "heap"] (defScope s_Field_things) := ⟨rfl, rfl, rfl, by decide +kernel, rfl, by decide +kernel, by decide +kernel⟩
abbrev s_Field_tree : Stmt := inClass (topS 19) 10
abbrev N_Field_tree : List Str := ["self", "heap", "node"]
theorem sc_Field_tree : FnScope N_Field_tree ["self", "heap"] (defScope s_Field_tree) := ⟨rfl, rfl, rfl, by decide +kernel, rfl, by decide +kernel, by decide +kernel⟩
abbrev s_Field_work : Stmt := inClass (topS 19) 11
abbrev N_Field_work : List Str := ["self"]
theorem sc_Field_work : FnScope N_Field_work ["self"] (defScope s_Field_work) := ⟨rfl, rfl, rfl, by decide +kernel, rfl, by decide +kernel, by decide +kernel⟩
abbrev s_Field_plant : Stmt := inClass (topS 19) 12
abbrev N_Field_plant : List Str := ["self", "heap", "one", "other", "top", "meetings"]
theorem sc_Field_plant : FnScope N_Field_plant ["self", "heap", "one", "other"] (defScope s_Field_plant) := ⟨rfl, rfl, rfl, by decide +kernel, rfl, by decide +kernel, by decide +kernel⟩
abbrev s_Field_check_heap : Stmt := inClass (topS 19) 13
abbrev N_Field_check_heap : List Str := ["self", "heap"]
theorem sc_Field_check_heap : FnScope N_Field_check_heap ["self", "heap"] (defScope s_Field_check_heap) := ⟨rfl, rfl, rfl, by decide +kernel, rfl, by decide +kernel, by decide +kernel⟩
abbrev s_Field_top : Stmt := inClass (topS 19) 14
abbrev N_Field_top : List Str := ["self", "heap", "top"]
theorem sc_Field_top : FnScope N_Field_top ["self", "heap"] (defScope s_Field_top) := ⟨rfl, rfl, rfl, by decide +kernel, rfl, by decide +kernel, by decide +kernel⟩
abbrev s_Field_node : Stmt := inClass (topS 19) 15
abbrev N_Field_node : List Str := ["self", "thing", "node"]
theorem sc_Field_node : FnScope N_Field_node ["self", "thing"] (defScope s_Field_node) := ⟨rfl, rfl, rfl, by decide +kernel, rfl, by decide +kernel, by decide +kernel⟩
abbrev s_l_whole : Stmt := topS 21
abbrev N_l_whole : List Str := ["_law_found"]
theorem sc_l_whole : FnScope N_l_whole ["_law_found"] (defScope s_l_whole) := ⟨rfl, rfl, rfl, by decide +kernel, rfl, by decide +kernel, by decide +kernel⟩
abbrev s_l_weight : Stmt := topS 22
abbrev N_l_weight : List Str := ["_law_cell", "_law_k"]
theorem sc_l_weight : FnScope N_l_weight ["_law_cell", "_law_k"] (defScope s_l_weight) := ⟨rfl, rfl, rfl, by decide +kernel, rfl, by decide +kernel, by decide +kernel⟩
abbrev s_l_levels : Stmt := topS 23
abbrev N_l_levels : List Str := ["_law_number", "_law_count", "_law_power"]
theorem sc_l_levels : FnScope N_l_levels ["_law_number"] (defScope s_l_levels) := ⟨rfl, rfl, rfl, by decide +kernel, rfl, by decide +kernel, by decide +kernel⟩
abbrev s_l_row : Stmt := topS 24
abbrev N_l_row : List Str := ["_law_row_here", "_law_weights", "_law_part"]
theorem sc_l_row : FnScope N_l_row ["_law_row_here", "_law_weights"] (defScope s_l_row) := ⟨rfl, rfl, rfl, by decide +kernel, rfl, by decide +kernel, by decide +kernel⟩
abbrev s_l_walked : Stmt := topS 25
abbrev N_l_walked : List Str := ["_law_rows", "_law_waiting", "_law_row_here", "_law_part"]
theorem sc_l_walked : FnScope N_l_walked ["_law_rows"] (defScope s_l_walked) := ⟨rfl, rfl, rfl, by decide +kernel, rfl, by decide +kernel, by decide +kernel⟩
abbrev s_l_runs : Stmt := topS 26
abbrev N_l_runs : List Str := ["_law_rows", "_law_size_here", "_law_runs_here", "_law_row_here", "_law_left", "_law_right"]
theorem sc_l_runs : FnScope N_l_runs ["_law_rows", "_law_size_here"] (defScope s_l_runs) := ⟨rfl, rfl, rfl, by decide +kernel, rfl, by decide +kernel, by decide +kernel⟩
abbrev s_l_good : Stmt := topS 27
abbrev N_l_good : List Str := ["_law_field", "_law_weights", "_law_homes", "_law_heap", "_law_rows", "_law_here", "_law_k", "_law_row_here"]
theorem sc_l_good : FnScope N_l_good ["_law_field", "_law_weights", "_law_homes", "_law_heap"] (defScope s_l_good) := ⟨rfl, rfl, rfl, by decide +kernel, rfl, by decide +kernel, by decide +kernel⟩
abbrev s_l_within : Stmt := topS 28
abbrev N_l_within : List Str := ["_law_field", "_law_most", "_law_found"]
theorem sc_l_within : FnScope N_l_within ["_law_field", "_law_most"] (defScope s_l_within) := ⟨rfl, rfl, rfl, by decide +kernel, rfl, by decide +kernel, by decide +kernel⟩
abbrev s_l_size : Stmt := topS 29
abbrev N_l_size : List Str := ["_law_homes", "_law_heap", "_law_k"]
theorem sc_l_size : FnScope N_l_size ["_law_homes", "_law_heap"] (defScope s_l_size) := ⟨rfl, rfl, rfl, by decide +kernel, rfl, by decide +kernel, by decide +kernel⟩
abbrev s_l_puts : Stmt := topS 30
abbrev N_l_puts : List Str := ["_law_field", "_law_weights", "_law_homes", "_law_heap", "_law_more", "_law_count", "_law_k", "_law_size_here"]
theorem sc_l_puts : FnScope N_l_puts ["_law_field", "_law_weights", "_law_homes", "_law_heap", "_law_more", "_law_count"] (defScope s_l_puts) := ⟨rfl, rfl, rfl, by decide +kernel, rfl, by decide +kernel, by decide +kernel⟩
abbrev s_l_takes : Stmt := topS 31
abbrev N_l_takes : List Str := ["_law_field", "_law_homes", "_law_heap", "_law_count", "_law_k", "_law_size_here"]
theorem sc_l_takes : FnScope N_l_takes ["_law_field", "_law_homes", "_law_heap", "_law_count"] (defScope s_l_takes) := ⟨rfl, rfl, rfl, by decide +kernel, rfl, by decide +kernel, by decide +kernel⟩
abbrev s_l_pours : Stmt := topS 32
abbrev N_l_pours : List Str := ["_law_field", "_law_homes", "_law_heap", "_law_other", "_law_most", "_law_k"]
theorem sc_l_pours : FnScope N_l_pours ["_law_field", "_law_homes", "_law_heap", "_law_other"] (defScope s_l_pours) := ⟨rfl, rfl, rfl, by decide +kernel, rfl, by decide +kernel, by decide +kernel⟩
abbrev s_l_sinks : Stmt := topS 33
abbrev N_l_sinks : List Str := ["_law_field", "_law_weights", "_law_homes", "_law_more", "_law_lying", "_law_k", "_law_thing", "_law_by", "_law_size_here"]
theorem sc_l_sinks : FnScope N_l_sinks ["_law_field", "_law_weights", "_law_homes", "_law_more"] (defScope s_l_sinks) := ⟨rfl, rfl, rfl, by decide +kernel, rfl, by decide +kernel, by decide +kernel⟩
abbrev s_l_deed : Stmt := topS 34
abbrev N_l_deed : List Str := ["_law_field", "_law_weights", "_law_homes", "_law_cell", "_law_more", "_law_heap", "_law_other"]
theorem sc_l_deed : FnScope N_l_deed ["_law_field", "_law_weights", "_law_homes", "_law_cell", "_law_more"] (defScope s_l_deed) := ⟨rfl, rfl, rfl, by decide +kernel, rfl, by decide +kernel, by decide +kernel⟩
abbrev s_law : Stmt := topS 35
abbrev N_law : List Str := ["_law_script", "_law_field", "_law_weights", "_law_homes", "_law_k", "_law_cell", "_law_heap"]
theorem sc_law : FnScope N_law ["_law_script"] (defScope s_law) := ⟨rfl, rfl, rfl, by decide +kernel, rfl, by decide +kernel, by decide +kernel⟩
/-- what stands behind the top -/
structure Txt (K : PySem.W.Frag) (mg : Str → Option Value) where
  c_Node : Addr
  cl_Node : Cls K c_Node
  gC_Node : mg "Node" = some (.ref c_Node)
  n_Node_thing : NoAttr K c_Node "thing"
  n_Node_weight : NoAttr K c_Node "weight"
  n_Node_home : NoAttr K c_Node "home"
  n_Node_above : NoAttr K c_Node "above"
  n_Node_left : NoAttr K c_Node "left"
  n_Node_right : NoAttr K c_Node "right"
  n_Node_run : NoAttr K c_Node "run"
  pe_Node : PlainEq K c_Node
  c_Field : Addr
  cl_Field : Cls K c_Field
  gC_Field : mg "Field" = some (.ref c_Field)
  n_Field_tops : NoAttr K c_Field "_tops"
  n_Field_nodes : NoAttr K c_Field "_nodes"
  n_Field_work : NoAttr K c_Field "_work"
  e_HeapError : Addr
  xHeapError : PySem.W.excIn K e_HeapError [.type "ValueError", .type "Exception", .type "BaseException", .type "object"] "ValueError.__new__" = true
  gHeapError : mg "HeapError" = some (.ref e_HeapError)
  kHeapError : PySem.W.keepIn K (.ref e_HeapError) = true
  bHeapError : PySem.W.subIn K (.ref e_HeapError) (.type "BaseException") = some true
  tHeapError : PySem.W.typeIn K (.ref e_HeapError) = some (.type "type")
  e_NoHeap : Addr
  xNoHeap : PySem.W.excIn K e_NoHeap [.type "ValueError", .type "Exception", .type "BaseException", .type "object"] "ValueError.__new__" = true
  gNoHeap : mg "NoHeap" = some (.ref e_NoHeap)
  kNoHeap : PySem.W.keepIn K (.ref e_NoHeap) = true
  bNoHeap : PySem.W.subIn K (.ref e_NoHeap) (.type "BaseException") = some true
  tNoHeap : PySem.W.typeIn K (.ref e_NoHeap) = some (.type "type")
  e_NoThing : Addr
  xNoThing : PySem.W.excIn K e_NoThing [.type "ValueError", .type "Exception", .type "BaseException", .type "object"] "ValueError.__new__" = true
  gNoThing : mg "NoThing" = some (.ref e_NoThing)
  kNoThing : PySem.W.keepIn K (.ref e_NoThing) = true
  bNoThing : PySem.W.subIn K (.ref e_NoThing) (.type "BaseException") = some true
  tNoThing : PySem.W.typeIn K (.ref e_NoThing) = some (.type "type")
  e_Bare : Addr
  xBare : PySem.W.excIn K e_Bare [.type "ValueError", .type "Exception", .type "BaseException", .type "object"] "ValueError.__new__" = true
  gBare : mg "Bare" = some (.ref e_Bare)
  kBare : PySem.W.keepIn K (.ref e_Bare) = true
  bBare : PySem.W.subIn K (.ref e_Bare) (.type "BaseException") = some true
  tBare : PySem.W.typeIn K (.ref e_Bare) = some (.type "type")
  e_Same : Addr
  xSame : PySem.W.excIn K e_Same [.type "ValueError", .type "Exception", .type "BaseException", .type "object"] "ValueError.__new__" = true
  gSame : mg "Same" = some (.ref e_Same)
  kSame : PySem.W.keepIn K (.ref e_Same) = true
  bSame : PySem.W.subIn K (.ref e_Same) (.type "BaseException") = some true
  tSame : PySem.W.typeIn K (.ref e_Same) = some (.type "type")
  e_Heavier : Addr
  xHeavier : PySem.W.excIn K e_Heavier [.type "ValueError", .type "Exception", .type "BaseException", .type "object"] "ValueError.__new__" = true
  gHeavier : mg "Heavier" = some (.ref e_Heavier)
  kHeavier : PySem.W.keepIn K (.ref e_Heavier) = true
  bHeavier : PySem.W.subIn K (.ref e_Heavier) (.type "BaseException") = some true
  tHeavier : PySem.W.typeIn K (.ref e_Heavier) = some (.type "type")
  a_Node_init : Addr
  d_Node_init : FuncData
  F_Node_init : Fun K "__init__" "Node.__init__" s_Node_init a_Node_init d_Node_init
  b_Node_init : Binds K d_Node_init ["self", "thing", "weight", "home"] []
  mk_Node : Mk K c_Node a_Node_init
  a_lesser : Addr
  d_lesser : FuncData
  F_lesser : Fun K "lesser" "lesser" s_lesser a_lesser d_lesser
  b_lesser : Binds K d_lesser ["one", "other"] []
  g_lesser : mg "lesser" = some (.ref a_lesser)
  a_run_of : Addr
  d_run_of : FuncData
  F_run_of : Fun K "run_of" "run_of" s_run_of a_run_of d_run_of
  b_run_of : Binds K d_run_of ["top"] []
  g_run_of : mg "run_of" = some (.ref a_run_of)
  a_thing_of : Addr
  d_thing_of : FuncData
  F_thing_of : Fun K "thing_of" "thing_of" s_thing_of a_thing_of d_thing_of
  b_thing_of : Binds K d_thing_of ["top"] []
  g_thing_of : mg "thing_of" = some (.ref a_thing_of)
  a_settle : Addr
  d_settle : FuncData
  F_settle : Fun K "settle" "settle" s_settle a_settle d_settle
  b_settle : Binds K d_settle ["node"] []
  g_settle : mg "settle" = some (.ref a_settle)
  a_meet : Addr
  d_meet : FuncData
  F_meet : Fun K "meet" "meet" s_meet a_meet d_meet
  b_meet : Binds K d_meet ["one", "other"] []
  g_meet : mg "meet" = some (.ref a_meet)
  a_joined : Addr
  d_joined : FuncData
  F_joined : Fun K "joined" "joined" s_joined a_joined d_joined
  b_joined : Binds K d_joined ["one", "other"] []
  g_joined : mg "joined" = some (.ref a_joined)
  a_cut_out : Addr
  d_cut_out : FuncData
  F_cut_out : Fun K "cut_out" "cut_out" s_cut_out a_cut_out d_cut_out
  b_cut_out : Binds K d_cut_out ["node"] []
  g_cut_out : mg "cut_out" = some (.ref a_cut_out)
  a_in_order : Addr
  d_in_order : FuncData
  F_in_order : Fun K "in_order" "in_order" s_in_order a_in_order d_in_order
  b_in_order : Binds K d_in_order ["top"] []
  g_in_order : mg "in_order" = some (.ref a_in_order)
  a_Field_init : Addr
  d_Field_init : FuncData
  F_Field_init : Fun K "__init__" "Field.__init__" s_Field_init a_Field_init d_Field_init
  b_Field_init : Binds K d_Field_init ["self"] []
  mk_Field : Mk K c_Field a_Field_init
  a_Field_heap : Addr
  d_Field_heap : FuncData
  F_Field_heap : Fun K "heap" "Field.heap" s_Field_heap a_Field_heap d_Field_heap
  b_Field_heap : Binds K d_Field_heap ["self"] []
  m_Field_heap : Meth K c_Field "heap" a_Field_heap
  a_Field_put : Addr
  d_Field_put : FuncData
  F_Field_put : Fun K "put" "Field.put" s_Field_put a_Field_put d_Field_put
  b_Field_put : Binds K d_Field_put ["self", "heap", "weight"] []
  m_Field_put : Meth K c_Field "put" a_Field_put
  a_Field_least : Addr
  d_Field_least : FuncData
  F_Field_least : Fun K "least" "Field.least" s_Field_least a_Field_least d_Field_least
  b_Field_least : Binds K d_Field_least ["self", "heap"] []
  m_Field_least : Meth K c_Field "least" a_Field_least
  a_Field_take : Addr
  d_Field_take : FuncData
  F_Field_take : Fun K "take" "Field.take" s_Field_take a_Field_take d_Field_take
  b_Field_take : Binds K d_Field_take ["self", "heap"] []
  m_Field_take : Meth K c_Field "take" a_Field_take
  a_Field_pour : Addr
  d_Field_pour : FuncData
  F_Field_pour : Fun K "pour" "Field.pour" s_Field_pour a_Field_pour d_Field_pour
  b_Field_pour : Binds K d_Field_pour ["self", "heap", "other"] []
  m_Field_pour : Meth K c_Field "pour" a_Field_pour
  a_Field_sink : Addr
  d_Field_sink : FuncData
  F_Field_sink : Fun K "sink" "Field.sink" s_Field_sink a_Field_sink d_Field_sink
  b_Field_sink : Binds K d_Field_sink ["self", "thing", "weight"] []
  m_Field_sink : Meth K c_Field "sink" a_Field_sink
  a_Field_things : Addr
  d_Field_things : FuncData
  F_Field_things : Fun K "things" "Field.things" s_Field_things a_Field_things d_Field_things
  b_Field_things : Binds K d_Field_things ["self", "heap"] []
  m_Field_things : Meth K c_Field "things" a_Field_things
  a_Field_tree : Addr
  d_Field_tree : FuncData
  F_Field_tree : Fun K "tree" "Field.tree" s_Field_tree a_Field_tree d_Field_tree
  b_Field_tree : Binds K d_Field_tree ["self", "heap"] []
  m_Field_tree : Meth K c_Field "tree" a_Field_tree
  a_Field_work : Addr
  d_Field_work : FuncData
  F_Field_work : Fun K "work" "Field.work" s_Field_work a_Field_work d_Field_work
  b_Field_work : Binds K d_Field_work ["self"] []
  m_Field_work : Meth K c_Field "work" a_Field_work
  a_Field_plant : Addr
  d_Field_plant : FuncData
  F_Field_plant : Fun K "_plant" "Field._plant" s_Field_plant a_Field_plant d_Field_plant
  b_Field_plant : Binds K d_Field_plant ["self", "heap", "one", "other"] []
  m_Field_plant : Meth K c_Field "_plant" a_Field_plant
  a_Field_check_heap : Addr
  d_Field_check_heap : FuncData
  F_Field_check_heap : Fun K "_check_heap" "Field._check_heap" s_Field_check_heap a_Field_check_heap d_Field_check_heap
  b_Field_check_heap : Binds K d_Field_check_heap ["self", "heap"] []
  m_Field_check_heap : Meth K c_Field "_check_heap" a_Field_check_heap
  a_Field_top : Addr
  d_Field_top : FuncData
  F_Field_top : Fun K "_top" "Field._top" s_Field_top a_Field_top d_Field_top
  b_Field_top : Binds K d_Field_top ["self", "heap"] []
  m_Field_top : Meth K c_Field "_top" a_Field_top
  a_Field_node : Addr
  d_Field_node : FuncData
  F_Field_node : Fun K "_node" "Field._node" s_Field_node a_Field_node d_Field_node
  b_Field_node : Binds K d_Field_node ["self", "thing"] []
  m_Field_node : Meth K c_Field "_node" a_Field_node
  a_l_whole : Addr
  d_l_whole : FuncData
  F_l_whole : Fun K "_law_whole" "_law_whole" s_l_whole a_l_whole d_l_whole
  b_l_whole : Binds K d_l_whole ["_law_found"] []
  g_l_whole : mg "_law_whole" = some (.ref a_l_whole)
  a_l_weight : Addr
  d_l_weight : FuncData
  F_l_weight : Fun K "_law_weight" "_law_weight" s_l_weight a_l_weight d_l_weight
  b_l_weight : Binds K d_l_weight ["_law_cell", "_law_k"] []
  g_l_weight : mg "_law_weight" = some (.ref a_l_weight)
  a_l_levels : Addr
  d_l_levels : FuncData
  F_l_levels : Fun K "_law_levels" "_law_levels" s_l_levels a_l_levels d_l_levels
  b_l_levels : Binds K d_l_levels ["_law_number"] []
  g_l_levels : mg "_law_levels" = some (.ref a_l_levels)
  a_l_row : Addr
  d_l_row : FuncData
  F_l_row : Fun K "_law_row" "_law_row" s_l_row a_l_row d_l_row
  b_l_row : Binds K d_l_row ["_law_row_here", "_law_weights"] []
  g_l_row : mg "_law_row" = some (.ref a_l_row)
  a_l_walked : Addr
  d_l_walked : FuncData
  F_l_walked : Fun K "_law_walked" "_law_walked" s_l_walked a_l_walked d_l_walked
  b_l_walked : Binds K d_l_walked ["_law_rows"] []
  g_l_walked : mg "_law_walked" = some (.ref a_l_walked)
  a_l_runs : Addr
  d_l_runs : FuncData
  F_l_runs : Fun K "_law_runs" "_law_runs" s_l_runs a_l_runs d_l_runs
  b_l_runs : Binds K d_l_runs ["_law_rows", "_law_size_here"] []
  g_l_runs : mg "_law_runs" = some (.ref a_l_runs)
  a_l_good : Addr
  d_l_good : FuncData
  F_l_good : Fun K "_law_good" "_law_good" s_l_good a_l_good d_l_good
  b_l_good : Binds K d_l_good ["_law_field", "_law_weights", "_law_homes", "_law_heap"] []
  g_l_good : mg "_law_good" = some (.ref a_l_good)
  a_l_within : Addr
  d_l_within : FuncData
  F_l_within : Fun K "_law_within" "_law_within" s_l_within a_l_within d_l_within
  b_l_within : Binds K d_l_within ["_law_field", "_law_most"] []
  g_l_within : mg "_law_within" = some (.ref a_l_within)
  a_l_size : Addr
  d_l_size : FuncData
  F_l_size : Fun K "_law_size" "_law_size" s_l_size a_l_size d_l_size
  b_l_size : Binds K d_l_size ["_law_homes", "_law_heap"] []
  g_l_size : mg "_law_size" = some (.ref a_l_size)
  a_l_puts : Addr
  d_l_puts : FuncData
  F_l_puts : Fun K "_law_puts" "_law_puts" s_l_puts a_l_puts d_l_puts
  b_l_puts : Binds K d_l_puts ["_law_field", "_law_weights", "_law_homes", "_law_heap", "_law_more", "_law_count"] []
  g_l_puts : mg "_law_puts" = some (.ref a_l_puts)
  a_l_takes : Addr
  d_l_takes : FuncData
  F_l_takes : Fun K "_law_takes" "_law_takes" s_l_takes a_l_takes d_l_takes
  b_l_takes : Binds K d_l_takes ["_law_field", "_law_homes", "_law_heap", "_law_count"] []
  g_l_takes : mg "_law_takes" = some (.ref a_l_takes)
  a_l_pours : Addr
  d_l_pours : FuncData
  F_l_pours : Fun K "_law_pours" "_law_pours" s_l_pours a_l_pours d_l_pours
  b_l_pours : Binds K d_l_pours ["_law_field", "_law_homes", "_law_heap", "_law_other"] []
  g_l_pours : mg "_law_pours" = some (.ref a_l_pours)
  a_l_sinks : Addr
  d_l_sinks : FuncData
  F_l_sinks : Fun K "_law_sinks" "_law_sinks" s_l_sinks a_l_sinks d_l_sinks
  b_l_sinks : Binds K d_l_sinks ["_law_field", "_law_weights", "_law_homes", "_law_more"] []
  g_l_sinks : mg "_law_sinks" = some (.ref a_l_sinks)
  a_l_deed : Addr
  d_l_deed : FuncData
  F_l_deed : Fun K "_law_deed" "_law_deed" s_l_deed a_l_deed d_l_deed
  b_l_deed : Binds K d_l_deed ["_law_field", "_law_weights", "_law_homes", "_law_cell", "_law_more"] []
  g_l_deed : mg "_law_deed" = some (.ref a_l_deed)
  a_law : Addr
  d_law : FuncData
  F_law : Fun K "law" "law" s_law a_law d_law
  b_law : Binds K d_law ["_law_script"] []
  g_law : mg "law" = some (.ref a_law)
  z_ValueError : mg "ValueError" = none
  z_bool : mg "bool" = none
  z_int : mg "int" = none
  z_isinstance : mg "isinstance" = none
  z_len : mg "len" = none
  z_list : mg "list" = none
  z_min : mg "min" = none
  z_range : mg "range" = none
  z_reversed : mg "reversed" = none
  z_sorted : mg "sorted" = none
  z_tuple : mg "tuple" = none
/-! ### the trees, plainly -/
/-- a node: its address, its thing, weight, home, run -/
structure Nd where
  a : Addr
  i : Nat
  w : Int
  h : Int
  k : Nat
inductive Tre where
  | nil
  | nd (n : Nd) (l r : Tre)
/-- lesser: by weight, then by number -/
def lt (m n : Nd) : Prop := m.w < n.w ∨ (m.w = n.w ∧ m.i < n.i)
instance (m n : Nd) : Decidable (lt m n) := by unfold lt; infer_instance
theorem lt_trans {m n p : Nd} (a : lt m n) (b : lt n p) : lt m p := by
  unfold lt at *
  omega
theorem lt_irrefl {m : Nd} : ¬ lt m m := by
  unfold lt
  omega
theorem lt_total {m n : Nd} (h : m.i ≠ n.i) (c : ¬ lt m n) : lt n m := by
  unfold lt at *
  omega
namespace Tre
def rk : Tre → Nat
  | nil => 0
  | nd n _ _ => n.k
def nodes : Tre → List Nd
  | nil => []
  | nd n l r => n :: (nodes l ++ nodes r)
def size : Tre → Nat
  | nil => 0
  | nd _ l r => size l + size r + 1
/-- how long the way down the right parts is -/
def spine : Tre → Nat
  | nil => 0
  | nd _ _ r => spine r + 1
/-- the sides set, the run told anew -/
def mk (n : Nd) (l r : Tre) : Tre := if l.rk < r.rk then nd { n with k := l.rk + 1 } r l else nd { n with k := r.rk + 1 } l r
theorem size_nodes : ∀ t : Tre, t.nodes.length = t.size
  | nil => rfl
  | nd n l r => by
    show (n :: (nodes l ++ nodes r)).length = size l + size r + 1
    rw [List.length_cons, List.length_append, size_nodes l, size_nodes r]
def join : Tre → Tre → Tre × Nat
  | nil, t => (t, 0)
  | nd n l r, nil => (nd n l r, 0)
  | nd n l r, nd m p q =>
    if lt m n then
      let z := join q (nd n l r)
      (mk m p z.1, z.2 + 1)
    else
      let z := join r (nd m p q)
      (mk n l z.1, z.2 + 1)
termination_by s t => s.spine + t.spine
decreasing_by
  all_goals simp only [spine]
  all_goals omega
theorem join_nil (t : Tre) : join nil t = (t, 0) := by
  rw [join]
theorem join_nil2 (t : Tre) : join t nil = (t, 0) := by
  cases t <;> rw [join]
theorem join_nd (n : Nd) (l r : Tre) (m : Nd) (p q : Tre) : join (nd n l r) (nd m p q) =
    if lt m n then (mk m p (join q (nd n l r)).1, (join q (nd n l r)).2 + 1) else (mk n l (join r (nd m p q)).1, (join r (nd m p q)).2 + 1) := by
  rw [join]

/-! ### what a node keeps: all but its run -/
structure Dat where
  a : Addr
  i : Nat
  w : Int
  h : Int
  deriving DecidableEq
def _root_.Sp.Nd.dat (n : Nd) : Dat := ⟨n.a, n.i, n.w, n.h⟩
def dats (t : Tre) : List Dat := t.nodes.map Nd.dat
theorem dats_nil : dats nil = [] := rfl
theorem dats_nd (n : Nd) (l r : Tre) : dats (nd n l r) = n.dat :: (dats l ++ dats r) := by
  unfold dats
  show (n :: (nodes l ++ nodes r)).map Nd.dat = _
  rw [List.map_cons, List.map_append]
theorem mk_dats (n : Nd) (l r : Tre) : (dats (mk n l r)).Perm (n.dat :: (dats l ++ dats r)) := by
  unfold mk
  split
  · rw [dats_nd]
    exact List.Perm.cons _ List.perm_append_comm
  · rw [dats_nd]
    exact List.Perm.refl _
theorem join_dats : ∀ (N : Nat) (s t : Tre), s.spine + t.spine ≤ N → (dats (join s t).1).Perm (dats s ++ dats t)
  | N, nil, t, _ => by
    rw [join_nil, dats_nil]
    exact List.Perm.refl _
  | N, nd n l r, nil, _ => by
    rw [join_nil2, dats_nil, List.append_nil]
  | 0, nd n l r, nd m p q, h => by
    simp only [spine] at h
    omega
  | N + 1, nd n l r, nd m p q, h => by
    simp only [spine] at h
    rw [join_nd]
    split
    · have ih := join_dats N q (nd n l r) (by simp only [spine]; omega)
      refine (mk_dats m p _).trans ?_
      rw [dats_nd m]
      refine ((List.Perm.cons _ (List.Perm.append_left _ ih)).trans ?_)
      -- m :: (p ++ (q ++ s)) ~ s ++ (m :: (p ++ q))
      refine List.Perm.trans ?_ List.perm_append_comm
      rw [← List.append_assoc]
      exact List.Perm.refl _
    · have ih := join_dats N r (nd m p q) (by simp only [spine]; omega)
      refine (mk_dats n l _).trans ?_
      rw [dats_nd n]
      refine ((List.Perm.cons _ (List.Perm.append_left _ ih)).trans ?_)
      rw [← List.append_assoc]
      exact List.Perm.refl _
theorem joinD (s t : Tre) : (dats (join s t).1).Perm (dats s ++ dats t) := join_dats _ s t (Nat.le_refl _)

/-! ### the order: a thing is lesser than all in its parts -/
def dlt (m n : Dat) : Prop := m.w < n.w ∨ (m.w = n.w ∧ m.i < n.i)
theorem lt_dat {m n : Nd} : lt m n ↔ dlt m.dat n.dat := Iff.rfl
theorem dlt_trans {m n p : Dat} (a : dlt m n) (b : dlt n p) : dlt m p := by
  unfold dlt at *
  omega
def HO : Tre → Prop
  | nil => True
  | nd n l r => (∀ d ∈ dats l, dlt n.dat d) ∧ (∀ d ∈ dats r, dlt n.dat d) ∧ HO l ∧ HO r
/-- no number twice -/
def NoI (t : Tre) : Prop := ((dats t).map Dat.i).Nodup
theorem mk_HO {n : Nd} {l r : Tre} (hl : ∀ d ∈ dats l, dlt n.dat d) (hr : ∀ d ∈ dats r, dlt n.dat d) (ol : HO l) (or_ : HO r) : HO (mk n l r) := by
  unfold mk
  split
  · exact ⟨hr, hl, or_, ol⟩
  · exact ⟨hl, hr, ol, or_⟩
theorem HO_top {n : Nd} {l r : Tre} (h : HO (nd n l r)) : ∀ d ∈ dats (nd n l r), d = n.dat ∨ dlt n.dat d := fun d hd => by
  rw [dats_nd] at hd
  rcases List.mem_cons.mp hd with e | hd
  · exact .inl e
  · rcases List.mem_append.mp hd with z | z
    · exact .inr (h.1 d z)
    · exact .inr (h.2.1 d z)
theorem join_HO : ∀ (N : Nat) (s t : Tre), s.spine + t.spine ≤ N → HO s → HO t → ((dats s ++ dats t).map Dat.i).Nodup → HO (join s t).1
  | N, nil, t, _, _, ht, _ => by
    rw [join_nil]
    exact ht
  | N, nd n l r, nil, _, hs, _, _ => by
    rw [join_nil2]
    exact hs
  | 0, nd n l r, nd m p q, h, _, _, _ => by
    simp only [spine] at h
    omega
  | N + 1, nd n l r, nd m p q, h, hs, ht, hN => by
    simp only [spine] at h
    rw [join_nd]
    split
    · rename_i c
      have e : ∀ d ∈ dats (join q (nd n l r)).1, d ∈ dats q ∨ d ∈ dats (nd n l r) := fun d hd => List.mem_append.mp ((joinD q (nd n l r)).mem_iff.mp hd)
      refine mk_HO ht.1 (fun d hd => ?_) ht.2.2.1 (join_HO N q (nd n l r) (by simp only [spine]; omega) ht.2.2.2 hs ?_)
      · rcases e d hd with z | z
        · exact ht.2.1 d z
        · rcases HO_top hs d z with z | z
          · rw [z]
            exact lt_dat.mp c
          · exact dlt_trans (lt_dat.mp c) z
      · refine List.Nodup.sublist ?_ ((List.perm_append_comm.map Dat.i).nodup_iff.mp hN)
        refine List.Sublist.map _ ?_
        refine List.Sublist.append ?_ (List.Sublist.refl _)
        rw [dats_nd]
        exact List.Sublist.cons _ (List.sublist_append_right _ _)
    · rename_i c
      have ni : n.i ≠ m.i := fun z => by
        rw [dats_nd, dats_nd, List.map_append, List.map_cons, List.map_cons] at hN
        have := (List.nodup_append.mp hN).2.2 n.dat.i List.mem_cons_self m.dat.i List.mem_cons_self
        exact this z
      have c' : lt n m := lt_total (fun z => ni z.symm) c
      have e : ∀ d ∈ dats (join r (nd m p q)).1, d ∈ dats r ∨ d ∈ dats (nd m p q) := fun d hd => List.mem_append.mp ((joinD r (nd m p q)).mem_iff.mp hd)
      refine mk_HO hs.1 (fun d hd => ?_) hs.2.2.1 (join_HO N r (nd m p q) (by simp only [spine]; omega) hs.2.2.2 ht ?_)
      · rcases e d hd with z | z
        · exact hs.2.1 d z
        · rcases HO_top ht d z with z | z
          · rw [z]
            exact lt_dat.mp c'
          · exact dlt_trans (lt_dat.mp c') z
      · refine List.Nodup.sublist ?_ hN
        refine List.Sublist.map _ ?_
        refine List.Sublist.append ?_ (List.Sublist.refl _)
        rw [dats_nd]
        exact List.Sublist.cons _ (List.sublist_append_right _ _)
theorem joinHO {s t : Tre} (hs : HO s) (ht : HO t) (hN : ((dats s ++ dats t).map Dat.i).Nodup) : HO (join s t).1 := join_HO _ s t (Nat.le_refl _) hs ht hN

/-! ### the runs -/
def LO : Tre → Prop
  | nil => True
  | nd n l r => n.k = r.rk + 1 ∧ r.rk ≤ l.rk ∧ LO l ∧ LO r
theorem mk_LO {n : Nd} {l r : Tre} (hl : LO l) (hr : LO r) : LO (mk n l r) := by
  unfold mk
  split
  · exact ⟨rfl, by omega, hr, hl⟩
  · exact ⟨rfl, by omega, hl, hr⟩
theorem spine_rk : ∀ {t : Tre}, LO t → t.spine = t.rk
  | nil, _ => rfl
  | nd n l r, h => by
    show spine r + 1 = n.k
    rw [spine_rk h.2.2.2, h.1]
theorem rk_size : ∀ {t : Tre}, LO t → 2 ^ t.rk ≤ t.size + 1
  | nil, _ => by simp [rk, size]
  | nd n l r, h => by
    show 2 ^ n.k ≤ size l + size r + 1 + 1
    have h1 := rk_size h.2.2.1
    have h2 := rk_size h.2.2.2
    have h3 : 2 ^ r.rk ≤ 2 ^ l.rk := Nat.pow_le_pow_right (by decide) h.2.1
    rw [h.1, Nat.pow_succ]
    omega
theorem join_LO : ∀ (N : Nat) (s t : Tre), s.spine + t.spine ≤ N → LO s → LO t → LO (join s t).1
  | N, nil, t, _, _, ht => by
    rw [join_nil]
    exact ht
  | N, nd n l r, nil, _, hs, _ => by
    rw [join_nil2]
    exact hs
  | 0, nd n l r, nd m p q, h, _, _ => by
    simp only [spine] at h
    omega
  | N + 1, nd n l r, nd m p q, h, hs, ht => by
    simp only [spine] at h
    rw [join_nd]
    split
    · exact mk_LO ht.2.2.1 (join_LO N q (nd n l r) (by simp only [spine]; omega) ht.2.2.2 hs)
    · exact mk_LO hs.2.2.1 (join_LO N r (nd m p q) (by simp only [spine]; omega) hs.2.2.2 ht)
theorem joinLO {s t : Tre} (hs : LO s) (ht : LO t) : LO (join s t).1 := join_LO _ s t (Nat.le_refl _) hs ht
theorem join_count : ∀ (N : Nat) (s t : Tre), s.spine + t.spine ≤ N → (join s t).2 ≤ s.spine + t.spine ∧ (s ≠ nil → t ≠ nil → (join s t).2 + 1 ≤ s.spine + t.spine)
  | N, nil, t, _ => by
    rw [join_nil]
    exact ⟨Nat.zero_le _, fun h => absurd rfl h⟩
  | N, nd n l r, nil, _ => by
    rw [join_nil2]
    exact ⟨Nat.zero_le _, fun _ h => absurd rfl h⟩
  | 0, nd n l r, nd m p q, h => by
    simp only [spine] at h
    omega
  | N + 1, nd n l r, nd m p q, h => by
    simp only [spine] at h
    rw [join_nd]
    have key : ∀ (u v : Tre), u.spine + v.spine ≤ N → v ≠ nil → (join u v).2 + 1 ≤ u.spine + v.spine := fun u v hv vn => by
      have ih := join_count N u v hv
      by_cases c : u = nil
      · subst c
        rw [join_nil]
        cases v with
        | nil => exact absurd rfl vn
        | nd a b d =>
          simp only [spine]
          omega
      · exact ih.2 c vn
    split
    · have k := key q (nd n l r) (by simp only [spine]; omega) (by intro z; cases z)
      simp only [spine] at k ⊢
      exact ⟨by omega, fun _ _ => by omega⟩
    · have k := key r (nd m p q) (by simp only [spine]; omega) (by intro z; cases z)
      simp only [spine] at k ⊢
      exact ⟨by omega, fun _ _ => by omega⟩

/-! ### a place within a tree: the things above, the nearest first -/
structure Up where
  n : Nd
  right : Bool
  sib : Tre
def put1 (f : Up) (t : Tre) : Tre := if f.right = true then nd f.n f.sib t else nd f.n t f.sib
def mk1 (f : Up) (t : Tre) : Tre := if f.right = true then mk f.n f.sib t else mk f.n t f.sib
def plug : Tre → List Up → Tre
  | t, [] => t
  | t, f :: fs => plug (put1 f t) fs
/-- going up: sides and runs told anew, till a run stays -/
def climb : Tre → List Up → Tre × Nat
  | t, [] => (t, 0)
  | t, f :: fs => if (mk1 f t).rk = f.n.k then (plug (mk1 f t) fs, 1) else ((climb (mk1 f t) fs).1, (climb (mk1 f t) fs).2 + 1)
def upDats : List Up → List Dat
  | [] => []
  | f :: fs => f.n.dat :: (dats f.sib ++ upDats fs)
theorem put1_dats (f : Up) (t : Tre) : (dats (put1 f t)).Perm (dats t ++ (f.n.dat :: dats f.sib)) := by
  unfold put1
  split
  · rw [dats_nd]
    refine List.Perm.trans ?_ List.perm_append_comm
    exact List.Perm.refl _
  · rw [dats_nd]
    exact List.perm_middle.symm
theorem mk1_dats (f : Up) (t : Tre) : (dats (mk1 f t)).Perm (dats t ++ (f.n.dat :: dats f.sib)) := by
  unfold mk1
  split
  · refine (mk_dats _ _ _).trans ?_
    refine List.Perm.trans ?_ List.perm_append_comm
    exact List.Perm.refl _
  · refine (mk_dats _ _ _).trans ?_
    exact List.perm_middle.symm
theorem plug_dats : ∀ (fs : List Up) (t : Tre), (dats (plug t fs)).Perm (dats t ++ upDats fs)
  | [], t => by
    show (dats t).Perm (dats t ++ [])
    rw [List.append_nil]
  | f :: fs, t => by
    refine (plug_dats fs (put1 f t)).trans ?_
    refine ((put1_dats f t).append_right _).trans ?_
    show (dats t ++ (f.n.dat :: dats f.sib) ++ upDats fs).Perm (dats t ++ (f.n.dat :: (dats f.sib ++ upDats fs)))
    rw [List.append_assoc, List.cons_append]
theorem climb_dats : ∀ (fs : List Up) (t : Tre), (dats (climb t fs).1).Perm (dats t ++ upDats fs)
  | [], t => by
    show (dats t).Perm (dats t ++ [])
    rw [List.append_nil]
  | f :: fs, t => by
    have two : ((dats (mk1 f t)) ++ upDats fs).Perm (dats t ++ upDats (f :: fs)) := by
      refine ((mk1_dats f t).append_right _).trans ?_
      show (dats t ++ (f.n.dat :: dats f.sib) ++ upDats fs).Perm (dats t ++ (f.n.dat :: (dats f.sib ++ upDats fs)))
      rw [List.append_assoc, List.cons_append]
    unfold climb
    split
    · exact (plug_dats fs _).trans two
    · exact (climb_dats fs _).trans two
/-- the order along the way up: each thing above is lesser than its other part and than all of t -/
def UHO : List Up → Prop
  | [] => True
  | f :: fs => (∀ d ∈ dats f.sib, dlt f.n.dat d) ∧ HO f.sib ∧ (∀ g ∈ fs, dlt g.n.dat f.n.dat ∧ ∀ d ∈ dats f.sib, dlt g.n.dat d) ∧ UHO fs
def Below (t : Tre) (fs : List Up) : Prop := ∀ d ∈ dats t, ∀ g ∈ fs, dlt g.n.dat d
theorem put1_HO {f : Up} {t : Tre} (h1 : ∀ d ∈ dats f.sib, dlt f.n.dat d) (h2 : HO f.sib) (h3 : ∀ d ∈ dats t, dlt f.n.dat d) (h4 : HO t) : HO (put1 f t) := by
  unfold put1
  split
  · exact ⟨h1, h3, h2, h4⟩
  · exact ⟨h3, h1, h4, h2⟩
theorem mk1_HO {f : Up} {t : Tre} (h1 : ∀ d ∈ dats f.sib, dlt f.n.dat d) (h2 : HO f.sib) (h3 : ∀ d ∈ dats t, dlt f.n.dat d) (h4 : HO t) : HO (mk1 f t) := by
  unfold mk1
  split
  · exact mk_HO h1 h3 h2 h4
  · exact mk_HO h3 h1 h4 h2
theorem below_up {f : Up} {fs : List Up} {t u : Tre} (hu : (dats u).Perm (dats t ++ (f.n.dat :: dats f.sib))) (U : UHO (f :: fs)) (B : Below t (f :: fs)) : Below u fs := fun d hd g hg => by
  rcases List.mem_append.mp (hu.mem_iff.mp hd) with z | z
  · exact B d z g (List.mem_cons_of_mem _ hg)
  · rcases List.mem_cons.mp z with z | z
    · rw [z]
      exact (U.2.2.1 g hg).1
    · exact (U.2.2.1 g hg).2 d z
theorem plug_HO : ∀ (fs : List Up) (t : Tre), UHO fs → Below t fs → HO t → HO (plug t fs)
  | [], _, _, _, h => h
  | f :: fs, t, U, B, h => plug_HO fs _ U.2.2.2 (below_up (put1_dats f t) U B) (put1_HO U.1 U.2.1 (fun d hd => B d hd f List.mem_cons_self) h)
theorem climb_HO : ∀ (fs : List Up) (t : Tre), UHO fs → Below t fs → HO t → HO (climb t fs).1
  | [], _, _, _, h => h
  | f :: fs, t, U, B, h => by
    have h1 := mk1_HO U.1 U.2.1 (fun d hd => B d hd f List.mem_cons_self) h
    have h2 := below_up (mk1_dats f t) U B
    unfold climb
    split
    · exact plug_HO fs _ U.2.2.2 h2 h1
    · exact climb_HO fs _ U.2.2.2 h2 h1
/-- and back: from the order of the whole -/
theorem HO_plug : ∀ (fs : List Up) (t : Tre), HO (plug t fs) → HO t ∧ UHO fs ∧ Below t fs
  | [], t, h => ⟨h, trivial, fun _ _ g hg => by cases hg⟩
  | f :: fs, t, h => by
    obtain ⟨h1, h2, h3⟩ := HO_plug fs (put1 f t) h
    have e : (∀ d ∈ dats f.sib, dlt f.n.dat d) ∧ HO f.sib ∧ (∀ d ∈ dats t, dlt f.n.dat d) ∧ HO t := by
      unfold put1 at h1
      split at h1
      · exact ⟨h1.1, h1.2.2.1, h1.2.1, h1.2.2.2⟩
      · exact ⟨h1.2.1, h1.2.2.2, h1.1, h1.2.2.1⟩
    have m : ∀ d, d ∈ dats t ∨ d = f.n.dat ∨ d ∈ dats f.sib → d ∈ dats (put1 f t) := fun d hd => (put1_dats f t).mem_iff.mpr (List.mem_append.mpr (hd.imp id fun z => List.mem_cons.mpr z))
    refine ⟨e.2.2.2, ⟨e.1, e.2.1, fun g hg => ⟨h3 _ (m _ (.inr (.inl rfl))) g hg, fun d hd => h3 d (m d (.inr (.inr hd))) g hg⟩, h2⟩, fun d hd g hg => ?_⟩
    rcases List.mem_cons.mp hg with z | z
    · rw [z]
      exact e.2.2.1 d hd
    · exact h3 d (m d (.inl hd)) g z
/-- the runs along the way up: of the part at the place a run of at least q is what the rest leans on -/
def ULO : Nat → List Up → Prop
  | _, [] => True
  | q, f :: fs => LO f.sib ∧ (if f.right = true then q ≤ f.sib.rk ∧ f.n.k = q + 1 else f.sib.rk ≤ q ∧ f.n.k = f.sib.rk + 1) ∧ ULO f.n.k fs
theorem LO_plug : ∀ (fs : List Up) (t : Tre), LO (plug t fs) → LO t ∧ ULO t.rk fs
  | [], t, h => ⟨h, trivial⟩
  | f :: fs, t, h => by
    obtain ⟨h1, h2⟩ := LO_plug fs (put1 f t) h
    have e : (put1 f t).rk = f.n.k := by unfold put1; split <;> rfl
    rw [e] at h2
    unfold put1 at h1
    by_cases c : f.right = true
    · rw [if_pos c] at h1
      refine ⟨h1.2.2.2, h1.2.2.1, ?_, h2⟩
      rw [if_pos c]
      exact ⟨h1.2.1, h1.1⟩
    · rw [if_neg c] at h1
      refine ⟨h1.2.2.1, h1.2.2.2, ?_, h2⟩
      rw [if_neg c]
      exact ⟨h1.2.1, h1.1⟩
theorem plug_LO : ∀ (fs : List Up) (t : Tre), LO t → ULO t.rk fs → LO (plug t fs)
  | [], _, h, _ => h
  | f :: fs, t, h, U => by
    have e : (put1 f t).rk = f.n.k := by unfold put1; split <;> rfl
    refine plug_LO fs _ ?_ (by rw [e]; exact U.2.2)
    have u := U.2.1
    unfold put1
    by_cases c : f.right = true
    · rw [if_pos c] at u ⊢
      exact ⟨u.2, u.1, U.1, h⟩
    · rw [if_neg c] at u ⊢
      exact ⟨u.2, u.1, h, U.1⟩
theorem mk1_LO {f : Up} {t : Tre} (h1 : LO f.sib) (h2 : LO t) : LO (mk1 f t) := by
  unfold mk1
  split
  · exact mk_LO h1 h2
  · exact mk_LO h2 h1
theorem mk_rk (n : Nd) (l r : Tre) : (mk n l r).rk = min l.rk r.rk + 1 := by
  unfold mk
  split
  · show l.rk + 1 = _
    omega
  · show r.rk + 1 = _
    omega
theorem mk1_rk (f : Up) (t : Tre) : (mk1 f t).rk = min f.sib.rk t.rk + 1 := by
  unfold mk1
  split
  · exact mk_rk _ _ _
  · rw [mk_rk]
    omega
/-- where the run stays the rest stands -/
theorem ULO_any : ∀ (fs : List Up) (p q : Nat), ULO q fs → p = q → ULO p fs := fun fs p q h e => e ▸ h
theorem climb_LO : ∀ (fs : List Up) (t : Tre) (q : Nat), LO t → ULO q fs → LO (climb t fs).1
  | [], _, _, h, _ => h
  | f :: fs, t, q, h, U => by
    have h1 := mk1_LO (f := f) U.1 h
    unfold climb
    split
    · rename_i c
      exact plug_LO fs _ h1 (by rw [c]; exact U.2.2)
    · exact climb_LO fs _ _ h1 U.2.2
theorem size_dats (t : Tre) : (dats t).length = t.size := by
  unfold dats
  rw [List.length_map, size_nodes]
/-- how many are looked at: each one whose run changed but the last is a step of the run -/
theorem climb_count : ∀ (fs : List Up) (t : Tre) (q : Nat), LO t → ULO q fs → t.rk < q → ∃ B : Nat, (climb t fs).2 + t.rk ≤ B + 1 ∧ 2 ^ B ≤ (climb t fs).1.size + 1
  | [], t, _, h, _, _ => ⟨t.rk, by show 0 + t.rk ≤ t.rk + 1; omega, rk_size h⟩
  | f :: fs, t, q, h, U, hq => by
    have h1 := mk1_LO (f := f) U.1 h
    have er := mk1_rk f t
    have hs : t.size ≤ (climb t (f :: fs)).1.size := by
      have := (climb_dats (f :: fs) t).length_eq
      rw [List.length_append, size_dats, size_dats] at this
      omega
    have u := U.2.1
    by_cases c : (mk1 f t).rk = f.n.k
    · have e : (climb t (f :: fs)).2 = 1 := by
        unfold climb
        rw [if_pos c]
      refine ⟨t.rk, by rw [e]; omega, ?_⟩
      have := rk_size h
      omega
    · have c2 : (mk1 f t).rk = t.rk + 1 ∧ t.rk + 1 < f.n.k := by
        by_cases r : f.right = true
        · rw [if_pos r] at u
          rw [er, u.2]
          omega
        · rw [if_neg r] at u
          rw [er, u.2] at c
          rw [er, u.2]
          omega
      have e : climb t (f :: fs) = ((climb (mk1 f t) fs).1, (climb (mk1 f t) fs).2 + 1) := by
        show (if (mk1 f t).rk = f.n.k then _ else _) = _
        rw [if_neg c]
      obtain ⟨B, b1, b2⟩ := climb_count fs (mk1 f t) f.n.k h1 U.2.2 (by omega)
      rw [e]
      refine ⟨B, ?_, b2⟩
      show (climb (mk1 f t) fs).2 + 1 + t.rk ≤ B + 1
      omega
end Tre
/-! ### nodes and trees in memory -/
theorem lk_eq {α : Type} {f : Str} {v : α} {r : List (Str × α)} : List.lookup f ((f, v) :: r) = some v := by simp [List.lookup]
theorem lk_ne {α : Type} {f g : Str} {v : α} {r : List (Str × α)} (h : (f == g) = false) : List.lookup f ((g, v) :: r) = List.lookup f r := by simp [List.lookup, h]
theorem pf_eq {f : Str} {v u : V} {r : List (Str × V)} : putF f v ((f, u) :: r) = (f, v) :: r := by simp [putF]
theorem pf_ne {f g : Str} {v u : V} {r : List (Str × V)} (h : (f == g) = false) : putF f v ((g, u) :: r) = (g, u) :: putF f v r := by
  have h2 : ¬ g = f := fun e => by
    subst e
    simp at h
  simp [putF, h2]
/-- a node's attributes, in their order -/
def nf (i w h : Int) (ab l r : V) (k : Int) : List (Str × V) := [("thing", .int i), ("weight", .int w), ("home", .int h), ("above", ab), ("left", l), ("right", r), ("run", .int k)]
section
variable {i w h k z : Int} {ab l r x : V}
theorem ne_weight_thing : (("weight" : Str) == "thing") = false := by decide +kernel
theorem ne_home_thing : (("home" : Str) == "thing") = false := by decide +kernel
theorem ne_home_weight : (("home" : Str) == "weight") = false := by decide +kernel
theorem ne_above_thing : (("above" : Str) == "thing") = false := by decide +kernel
theorem ne_above_weight : (("above" : Str) == "weight") = false := by decide +kernel
theorem ne_above_home : (("above" : Str) == "home") = false := by decide +kernel
theorem ne_left_thing : (("left" : Str) == "thing") = false := by decide +kernel
theorem ne_left_weight : (("left" : Str) == "weight") = false := by decide +kernel
theorem ne_left_home : (("left" : Str) == "home") = false := by decide +kernel
theorem ne_left_above : (("left" : Str) == "above") = false := by decide +kernel
theorem ne_right_thing : (("right" : Str) == "thing") = false := by decide +kernel
theorem ne_right_weight : (("right" : Str) == "weight") = false := by decide +kernel
theorem ne_right_home : (("right" : Str) == "home") = false := by decide +kernel
theorem ne_right_above : (("right" : Str) == "above") = false := by decide +kernel
theorem ne_right_left : (("right" : Str) == "left") = false := by decide +kernel
theorem ne_run_thing : (("run" : Str) == "thing") = false := by decide +kernel
theorem ne_run_weight : (("run" : Str) == "weight") = false := by decide +kernel
theorem ne_run_home : (("run" : Str) == "home") = false := by decide +kernel
theorem ne_run_above : (("run" : Str) == "above") = false := by decide +kernel
theorem ne_run_left : (("run" : Str) == "left") = false := by decide +kernel
theorem ne_run_right : (("run" : Str) == "right") = false := by decide +kernel
theorem nf_thing : (nf i w h ab l r k).lookup ("thing" : Str) = some (V.int i) := lk_eq
theorem nf_weight : (nf i w h ab l r k).lookup ("weight" : Str) = some (V.int w) := (lk_ne ne_weight_thing).trans lk_eq
theorem nf_home : (nf i w h ab l r k).lookup ("home" : Str) = some (V.int h) := (lk_ne ne_home_thing).trans ((lk_ne ne_home_weight).trans lk_eq)
theorem nf_above : (nf i w h ab l r k).lookup ("above" : Str) = some (ab) := (lk_ne ne_above_thing).trans ((lk_ne ne_above_weight).trans ((lk_ne ne_above_home).trans lk_eq))
theorem nf_left : (nf i w h ab l r k).lookup ("left" : Str) = some (l) := (lk_ne ne_left_thing).trans ((lk_ne ne_left_weight).trans ((lk_ne ne_left_home).trans ((lk_ne ne_left_above).trans lk_eq)))
theorem nf_right : (nf i w h ab l r k).lookup ("right" : Str) = some (r) := (lk_ne ne_right_thing).trans ((lk_ne ne_right_weight).trans ((lk_ne ne_right_home).trans ((lk_ne ne_right_above).trans ((lk_ne ne_right_left).trans lk_eq))))
theorem nf_run : (nf i w h ab l r k).lookup ("run" : Str) = some (V.int k) := (lk_ne ne_run_thing).trans ((lk_ne ne_run_weight).trans ((lk_ne ne_run_home).trans ((lk_ne ne_run_above).trans ((lk_ne ne_run_left).trans ((lk_ne ne_run_right).trans lk_eq)))))
theorem put_weight : putF ("weight" : Str) (V.int z) (nf i w h ab l r k) = nf i z h ab l r k := (pf_ne ne_weight_thing).trans (congrArg (List.cons _) pf_eq)
theorem put_home : putF ("home" : Str) (V.int z) (nf i w h ab l r k) = nf i w z ab l r k := (pf_ne ne_home_thing).trans (congrArg (List.cons _) ((pf_ne ne_home_weight).trans (congrArg (List.cons _) pf_eq)))
theorem put_above : putF ("above" : Str) x (nf i w h ab l r k) = nf i w h x l r k := (pf_ne ne_above_thing).trans (congrArg (List.cons _) ((pf_ne ne_above_weight).trans (congrArg (List.cons _) ((pf_ne ne_above_home).trans (congrArg (List.cons _) pf_eq)))))
theorem put_left : putF ("left" : Str) x (nf i w h ab l r k) = nf i w h ab x r k := (pf_ne ne_left_thing).trans (congrArg (List.cons _) ((pf_ne ne_left_weight).trans (congrArg (List.cons _) ((pf_ne ne_left_home).trans (congrArg (List.cons _) ((pf_ne ne_left_above).trans (congrArg (List.cons _) pf_eq)))))))
theorem put_right : putF ("right" : Str) x (nf i w h ab l r k) = nf i w h ab l x k := (pf_ne ne_right_thing).trans (congrArg (List.cons _) ((pf_ne ne_right_weight).trans (congrArg (List.cons _) ((pf_ne ne_right_home).trans (congrArg (List.cons _) ((pf_ne ne_right_above).trans (congrArg (List.cons _) ((pf_ne ne_right_left).trans (congrArg (List.cons _) pf_eq)))))))))
theorem put_run : putF ("run" : Str) (V.int z) (nf i w h ab l r k) = nf i w h ab l r z := (pf_ne ne_run_thing).trans (congrArg (List.cons _) ((pf_ne ne_run_weight).trans (congrArg (List.cons _) ((pf_ne ne_run_home).trans (congrArg (List.cons _) ((pf_ne ne_run_above).trans (congrArg (List.cons _) ((pf_ne ne_run_left).trans (congrArg (List.cons _) ((pf_ne ne_run_right).trans (congrArg (List.cons _) pf_eq)))))))))))
theorem nf_len : (nf i w h ab l r k).length < 1000 := by show 7 < 1000; decide
end
theorem pf_nil {f : Str} {v : V} : putF f v [] = [(f, v)] := by simp [putF]
/-- the seven attributes of a new node -/
theorem new_thing {i w h : Int} : putF ("thing" : Str) (V.int i) ([] : List (Str × V)) = [(("thing" : Str), (V.int i))] := pf_nil
theorem new_weight {i w h : Int} : putF ("weight" : Str) (V.int w) ([(("thing" : Str), (V.int i))] : List (Str × V)) = [(("thing" : Str), (V.int i)), (("weight" : Str), (V.int w))] := (pf_ne ne_weight_thing).trans (congrArg (List.cons _) pf_nil)
theorem new_home {i w h : Int} : putF ("home" : Str) (V.int h) ([(("thing" : Str), (V.int i)), (("weight" : Str), (V.int w))] : List (Str × V)) = [(("thing" : Str), (V.int i)), (("weight" : Str), (V.int w)), (("home" : Str), (V.int h))] := (pf_ne ne_home_thing).trans (congrArg (List.cons _) ((pf_ne ne_home_weight).trans (congrArg (List.cons _) pf_nil)))
theorem new_above {i w h : Int} : putF ("above" : Str) V.non ([(("thing" : Str), (V.int i)), (("weight" : Str), (V.int w)), (("home" : Str), (V.int h))] : List (Str × V)) = [(("thing" : Str), (V.int i)), (("weight" : Str), (V.int w)), (("home" : Str), (V.int h)), (("above" : Str), V.non)] := (pf_ne ne_above_thing).trans (congrArg (List.cons _) ((pf_ne ne_above_weight).trans (congrArg (List.cons _) ((pf_ne ne_above_home).trans (congrArg (List.cons _) pf_nil)))))
theorem new_left {i w h : Int} : putF ("left" : Str) V.non ([(("thing" : Str), (V.int i)), (("weight" : Str), (V.int w)), (("home" : Str), (V.int h)), (("above" : Str), V.non)] : List (Str × V)) = [(("thing" : Str), (V.int i)), (("weight" : Str), (V.int w)), (("home" : Str), (V.int h)), (("above" : Str), V.non), (("left" : Str), V.non)] := (pf_ne ne_left_thing).trans (congrArg (List.cons _) ((pf_ne ne_left_weight).trans (congrArg (List.cons _) ((pf_ne ne_left_home).trans (congrArg (List.cons _) ((pf_ne ne_left_above).trans (congrArg (List.cons _) pf_nil)))))))
theorem new_right {i w h : Int} : putF ("right" : Str) V.non ([(("thing" : Str), (V.int i)), (("weight" : Str), (V.int w)), (("home" : Str), (V.int h)), (("above" : Str), V.non), (("left" : Str), V.non)] : List (Str × V)) = [(("thing" : Str), (V.int i)), (("weight" : Str), (V.int w)), (("home" : Str), (V.int h)), (("above" : Str), V.non), (("left" : Str), V.non), (("right" : Str), V.non)] := (pf_ne ne_right_thing).trans (congrArg (List.cons _) ((pf_ne ne_right_weight).trans (congrArg (List.cons _) ((pf_ne ne_right_home).trans (congrArg (List.cons _) ((pf_ne ne_right_above).trans (congrArg (List.cons _) ((pf_ne ne_right_left).trans (congrArg (List.cons _) pf_nil)))))))))
theorem new_run {i w h : Int} : putF ("run" : Str) (V.int 1) ([(("thing" : Str), (V.int i)), (("weight" : Str), (V.int w)), (("home" : Str), (V.int h)), (("above" : Str), V.non), (("left" : Str), V.non), (("right" : Str), V.non)] : List (Str × V)) = [(("thing" : Str), (V.int i)), (("weight" : Str), (V.int w)), (("home" : Str), (V.int h)), (("above" : Str), V.non), (("left" : Str), V.non), (("right" : Str), V.non), (("run" : Str), (V.int 1))] := (pf_ne ne_run_thing).trans (congrArg (List.cons _) ((pf_ne ne_run_weight).trans (congrArg (List.cons _) ((pf_ne ne_run_home).trans (congrArg (List.cons _) ((pf_ne ne_run_above).trans (congrArg (List.cons _) ((pf_ne ne_run_left).trans (congrArg (List.cons _) ((pf_ne ne_run_right).trans (congrArg (List.cons _) pf_nil)))))))))))
theorem nf_new {i w h : Int} : putF ("run" : Str) (V.int 1) (putF ("right" : Str) V.non (putF ("left" : Str) V.non (putF ("above" : Str) V.non (putF ("home" : Str) (V.int h) (putF ("weight" : Str) (V.int w) (putF ("thing" : Str) (V.int i) [])))))) = nf i w h V.non V.non V.non 1 := by
  rw [new_thing (w := w) (h := h), new_weight (h := h), new_home, new_above, new_left, new_right, new_run]
  rfl
def NodeAt (C : Addr) (H : Hp) (n : Nd) (ab l r : V) : Prop := ∃ dx, H n.a = some (.ins C dx (nf n.i n.w n.h ab l r n.k))
namespace Tre
def ref : Tre → V
  | nil => .non
  | nd n _ _ => .ref n.a
/-- the thing at the top, told as a value -/
def thV : Tre → V
  | nil => .non
  | nd n _ _ => .int n.i
def addrs (t : Tre) : List Addr := (dats t).map Dat.a
theorem addrs_nd (n : Nd) (l r : Tre) : addrs (nd n l r) = n.a :: (addrs l ++ addrs r) := by
  unfold addrs
  rw [dats_nd, List.map_cons, List.map_append]
  rfl
theorem addrs_nil : addrs nil = [] := rfl
theorem join_addrs (s t : Tre) : (addrs (join s t).1).Perm (addrs s ++ addrs t) := by
  unfold addrs
  rw [← List.map_append]
  exact (joinD s t).map _
theorem mk_addrs (n : Nd) (l r : Tre) : (addrs (mk n l r)).Perm (n.a :: (addrs l ++ addrs r)) := by
  unfold addrs
  rw [← List.map_append]
  exact (mk_dats n l r).map Dat.a
end Tre
open Tre
def TAt (C : Addr) (H : Hp) : Tre → V → Prop
  | .nil, _ => True
  | .nd n l r, ab => NodeAt C H n ab (ref l) (ref r) ∧ TAt C H l (.ref n.a) ∧ TAt C H r (.ref n.a)
/-- all but what stands at S is as it was -/
def Frame (S : List Addr) (H H' : Hp) : Prop := ∀ b o, H b = some o → b ∉ S → H' b = some o
theorem Frame.refl {S : List Addr} {H : Hp} : Frame S H H := fun _ _ e _ => e
theorem Frame.trans {S : List Addr} {H H1 H2 : Hp} (a : Frame S H H1) (b : Frame S H1 H2) : Frame S H H2 := fun c o e h => b c o (a c o e h) h
theorem Frame.mono {S S' : List Addr} {H H' : Hp} (a : Frame S H H') (h : ∀ b ∈ S, b ∈ S') : Frame S' H H' := fun b o e hb => a b o e fun z => hb (h b z)
theorem Frame.same {S : List Addr} {H H' : Hp} (a : Same H H') : Frame S H H' := fun b o e _ => a b o e
theorem Frame.wr {S : List Addr} {H : Hp} {p : Addr} {o : HO} (h : p ∈ S) : Frame S H (upd H p o) := fun b u e hb => by
  rw [upd_ne (fun z => hb (by rw [z]; exact h))]
  exact e
theorem Frame.new {S : List Addr} {H : Hp} {p : Addr} {o : HO} (h : H p = none) : Frame S H (upd H p o) := fun b u e _ => by
  rw [upd_ne (ne_of_none e h)]
  exact e
theorem same_new {H : Hp} {p : Addr} {o : HO} (h : H p = none) : Same H (upd H p o) := fun b u e => by
  rw [upd_ne (ne_of_none e h)]
  exact e
section
variable {C : Addr} {H H' : Hp} {n : Nd} {ab l r : V} {t : Tre} {S : List Addr}
theorem NodeAt.keep (h : NodeAt C H n ab l r) (f : Frame S H H') (hn : n.a ∉ S) : NodeAt C H' n ab l r := by
  obtain ⟨dx, e⟩ := h
  exact ⟨dx, f _ _ e hn⟩
theorem TAt.keep : ∀ {t : Tre} {ab : V}, TAt C H t ab → Frame S H H' → (∀ b ∈ addrs t, b ∉ S) → TAt C H' t ab
  | .nil, _, _, _, _ => trivial
  | .nd n l r, ab, h, f, hs => by
    rw [addrs_nd] at hs
    exact ⟨h.1.keep f (hs _ List.mem_cons_self), h.2.1.keep f fun b hb => hs b (List.mem_cons_of_mem _ (List.mem_append_left _ hb)), h.2.2.keep f fun b hb => hs b (List.mem_cons_of_mem _ (List.mem_append_right _ hb))⟩
theorem TAt.same {t : Tre} {ab : V} (h : TAt C H t ab) (s : Same H H') : TAt C H' t ab := h.keep (S := []) (Frame.same s) fun _ _ z => by cases z
theorem TAt.there : ∀ {t : Tre} {ab : V}, TAt C H t ab → ∀ b ∈ addrs t, ∃ dx fs, H b = some (.ins C dx fs)
  | .nil, _, _ => fun b hb => by cases hb
  | .nd n l r, ab, h => fun b hb => by
    rw [addrs_nd] at hb
    rcases List.mem_cons.mp hb with e | hb
    · subst e
      obtain ⟨dx, e⟩ := h.1
      exact ⟨dx, _, e⟩
    · rcases List.mem_append.mp hb with z | z
      · exact h.2.1.there b z
      · exact h.2.2.there b z
theorem TAt.ne {t : Tre} {ab : V} {p : Addr} (h : TAt C H t ab) (hp : H p = none) : p ∉ addrs t := fun z => by
  obtain ⟨dx, fs, e⟩ := h.there p z
  rw [hp] at e
  cases e
/-- the top's above may be set -/
theorem TAt.above {m : Nd} {p q : Tre} {ab x : V} {dx : Addr} (h : TAt C H (.nd m p q) ab) (hN : (addrs (.nd m p q)).Nodup) (e : H m.a = some (.ins C dx (nf m.i m.w m.h ab (ref p) (ref q) m.k))) :
    TAt C (upd H m.a (.ins C dx (putF ("above" : Str) x (nf m.i m.w m.h ab (ref p) (ref q) m.k)))) (.nd m p q) x := by
  rw [addrs_nd, List.nodup_cons] at hN
  have f : Frame [m.a] H (upd H m.a (.ins C dx (putF ("above" : Str) x (nf m.i m.w m.h ab (ref p) (ref q) m.k)))) := Frame.wr (List.mem_singleton.mpr rfl)
  refine ⟨⟨dx, ?_⟩, h.2.1.keep f fun b hb z => ?_, h.2.2.keep f fun b hb z => ?_⟩
  · rw [upd_same, put_above]
  · rw [List.mem_singleton.mp z] at hb
    exact hN.1 (List.mem_append_left _ hb)
  · rw [List.mem_singleton.mp z] at hb
    exact hN.1 (List.mem_append_right _ hb)
end
/-! ### the defs over nodes -/
section
variable {P : Program} {w : World} {K : PySem.W.Frag} {mg : Str → Option Value} {base : Heap}
/-- Node(thing, weight, home) -/
def sp_Node_init (C : Addr) : Sp := fun vs H Q _ => ∃ (p dx : Addr) (i w h : Int), vs = [.ref p, .int i, .int w, .int h] ∧ H p = some (.ins C dx []) ∧ ∀ H', H' p = some (.ins C dx (nf i w h .non .non .non 1)) → Frame [p] H H' → Q .non H'
theorem ok_Node_init (T : Txt K mg) : FnOk P w K mg base CX0 1 T.a_Node_init T.d_Node_init ["self", "thing", "weight", "home"] (sp_Node_init T.c_Node) := by
  refine T.F_Node_init.ok sc_Node_init (fun vs H Q E h => ?_) (fun cdv A outer s H vs Q E hr h => ?_)
  · obtain ⟨p, dx, i, w, h, rfl, _⟩ := h
    rfl
  · obtain ⟨p, dx, i, w, h, rfl, hp, k⟩ := h
    refine ⟨_, (pss_cons (ps_fld (pv 0) (pv 1) rfl)
  (pss_cons (ps_fld (pv 0) (pv 2) rfl)
  (pss_cons (ps_fld (pv 0) (pv 3) rfl)
  (pss_cons (ps_fld (pv 0) pe_non rfl)
  (pss_cons (ps_fld (pv 0) pe_non rfl)
  (pss_cons (ps_fld (pv 0) pe_non rfl)
  (pss_one (ps_fld (pv 0) pe_int rfl)))))))), ?_⟩
    have l : ∀ (f : Str) (v : V) {fs : List (Str × V)} {n : Nat}, fs.length ≤ n → (putF f v fs).length ≤ n + 1 := fun f v fs n h => Nat.le_trans (length_putF f v fs) (Nat.succ_le_succ h)
    have l0 : ([] : List (Str × V)).length ≤ 0 := Nat.le_refl _
    have l1 := l ("thing" : Str) (.int i) l0
    have l2 := l "weight" (.int w) l1
    have l3 := l "home" (.int h) l2
    have l4 := l "above" .non l3
    have l5 := l "left" .non l4
    have l6 := l "right" .non l5
    refine ⟨_, rfl, _, rfl, p, T.c_Node, dx, _, rfl, hp, T.cl_Node, T.n_Node_thing, Nat.lt_of_le_of_lt l0 (by decide), ?_⟩
    refine ⟨_, rfl, _, rfl, p, T.c_Node, dx, _, rfl, upd_same, T.cl_Node, T.n_Node_weight, Nat.lt_of_le_of_lt l1 (by decide), ?_⟩
    refine ⟨_, rfl, _, rfl, p, T.c_Node, dx, _, rfl, upd_same, T.cl_Node, T.n_Node_home, Nat.lt_of_le_of_lt l2 (by decide), ?_⟩
    refine ⟨_, rfl, p, T.c_Node, dx, _, rfl, upd_same, T.cl_Node, T.n_Node_above, Nat.lt_of_le_of_lt l3 (by decide), ?_⟩
    refine ⟨_, rfl, p, T.c_Node, dx, _, rfl, upd_same, T.cl_Node, T.n_Node_left, Nat.lt_of_le_of_lt l4 (by decide), ?_⟩
    refine ⟨_, rfl, p, T.c_Node, dx, _, rfl, upd_same, T.cl_Node, T.n_Node_right, Nat.lt_of_le_of_lt l5 (by decide), ?_⟩
    refine ⟨_, rfl, p, T.c_Node, dx, _, rfl, upd_same, T.cl_Node, T.n_Node_run, Nat.lt_of_le_of_lt l6 (by decide), ?_⟩
    refine k _ (upd_same.trans (congrArg (fun q => some (HO.ins T.c_Node dx q)) nf_new)) ?_
    have m : p ∈ [p] := List.mem_singleton.mpr rfl
    exact ((((((Frame.wr m).trans (Frame.wr m)).trans (Frame.wr m)).trans (Frame.wr m)).trans (Frame.wr m)).trans (Frame.wr m)).trans (Frame.wr m)
theorem lex_lt (m n : Nd) : HT.lexLt [m.w, (m.i : Int)] [n.w, (n.i : Int)] = decide (lt m n) := by
  rw [HT.lexLt_cons, HT.lexLt_cons, HT.lexLt_nil_nil]
  unfold lt
  by_cases c : m.w = n.w
  · rw [if_pos c]
    by_cases c2 : (m.i : Int) = (n.i : Int)
    · rw [if_pos c2]
      exact (decide_eq_false (by omega)).symm
    · rw [if_neg c2]
      exact decide_eq_decide.mpr (by omega)
  · rw [if_neg c]
    exact decide_eq_decide.mpr (by omega)
/-- lesser(one, other) -/
def sp_lesser (C : Addr) : Sp := fun vs H Q _ => ∃ (m n : Nd) (x1 x2 x3 y1 y2 y3 : V), vs = [.ref m.a, .ref n.a] ∧ NodeAt C H m x1 x2 x3 ∧ NodeAt C H n y1 y2 y3 ∧ ∀ H', Same H H' → Q (.bl (decide (lt m n))) H'
theorem ok_lesser (T : Txt K mg) : FnOk P w K mg base CX0 1 T.a_lesser T.d_lesser ["one", "other"] (sp_lesser T.c_Node) := by
  refine T.F_lesser.ok sc_lesser (fun vs H Q E h => ?_) (fun cdv A outer s H vs Q E hr h => ?_)
  · obtain ⟨m, n, x1, x2, x3, y1, y2, y3, rfl, _⟩ := h
    rfl
  · obtain ⟨m, n, x1, x2, x3, y1, y2, y3, rfl, ⟨d1, h1⟩, ⟨d2, h2⟩, k⟩ := h
    refine ⟨_, (pss_one (ps_ret (pe_cmpR (op_ltT hr.units0) (pe_tup (pa_cons (pe_fld (pv 0) rfl) (pa_cons (pe_fld (pv 0) rfl) pa_nil))) (pe_tup (pa_cons (pe_fld (pv 1) rfl) (pa_cons (pe_fld (pv 1) rfl) pa_nil))) (nomark _)))), ?_⟩
    refine ⟨_, rfl, m.a, T.c_Node, d1, _, _, rfl, h1, T.cl_Node, T.n_Node_weight, nf_weight, _, rfl, m.a, T.c_Node, d1, _, _, rfl, h1, T.cl_Node, T.n_Node_thing, nf_thing, (by show 2 ≤ sizeLine; decide), fun p hp => ?_⟩
    have s1 := same_new (o := .tup [.int m.w, .int m.i]) hp
    have h3 := s1 _ _ h2
    refine ⟨_, rfl, n.a, T.c_Node, d2, _, _, rfl, h3, T.cl_Node, T.n_Node_weight, nf_weight, _, rfl, n.a, T.c_Node, d2, _, _, rfl, h3, T.cl_Node, T.n_Node_thing, nf_thing, (by show 2 ≤ sizeLine; decide), fun q hq => ?_⟩
    have s2 := same_new (o := .tup [.int n.w, .int n.i]) hq
    refine ⟨p, q, [m.w, (m.i : Int)], [n.w, (n.i : Int)], rfl, rfl, SqT.of (s2 _ _ upd_same), SqT.of upd_same, ?_⟩
    rw [lex_lt]
    exact k _ (s1.trans s2)
/-- run_of(top) -/
def sp_run_of (C : Addr) : Sp := fun vs H Q _ => ∃ (t : Tre) (ab : V), vs = [ref t] ∧ TAt C H t ab ∧ Q (.int t.rk) H
theorem ok_run_of (T : Txt K mg) : FnOk P w K mg base CX0 1 T.a_run_of T.d_run_of ["top"] (sp_run_of T.c_Node) := by
  refine T.F_run_of.ok sc_run_of (fun vs H Q E h => ?_) (fun cdv A outer s H vs Q E hr h => ?_)
  · obtain ⟨t, ab, rfl, _⟩ := h
    rfl
  · obtain ⟨t, ab, rfl, ht, k⟩ := h
    refine ⟨_, (pss_cons (ps_if (pt_cmpR op_isN (pv 0) pe_non (nomark _))
  (pss_one (ps_ret pe_int))
  pss_nil)
  (pss_one (ps_ret (pe_fld (pv 0) rfl)))), ?_⟩
    cases t with
    | nil => exact ⟨_, rfl, rfl, _, rfl, t_yes rfl k⟩
    | nd n l r =>
      obtain ⟨⟨d, e⟩, _⟩ := ht
      exact ⟨_, rfl, rfl, _, rfl, t_no (by intro z; cases z) ⟨_, rfl, n.a, T.c_Node, d, _, _, rfl, e, T.cl_Node, T.n_Node_run, nf_run, k⟩⟩
/-- thing_of(top) -/
def sp_thing_of (C : Addr) : Sp := fun vs H Q _ => ∃ (t : Tre) (ab : V), vs = [ref t] ∧ TAt C H t ab ∧ Q (thV t) H
theorem ok_thing_of (T : Txt K mg) : FnOk P w K mg base CX0 1 T.a_thing_of T.d_thing_of ["top"] (sp_thing_of T.c_Node) := by
  refine T.F_thing_of.ok sc_thing_of (fun vs H Q E h => ?_) (fun cdv A outer s H vs Q E hr h => ?_)
  · obtain ⟨t, ab, rfl, _⟩ := h
    rfl
  · obtain ⟨t, ab, rfl, ht, k⟩ := h
    refine ⟨_, (pss_cons (ps_if (pt_cmpR op_isN (pv 0) pe_non (nomark _))
  (pss_one (ps_ret pe_non))
  pss_nil)
  (pss_one (ps_ret (pe_fld (pv 0) rfl)))), ?_⟩
    cases t with
    | nil => exact ⟨_, rfl, rfl, _, rfl, t_yes rfl k⟩
    | nd n l r =>
      obtain ⟨⟨d, e⟩, _⟩ := ht
      exact ⟨_, rfl, rfl, _, rfl, t_no (by intro z; cases z) ⟨_, rfl, n.a, T.c_Node, d, _, _, rfl, e, T.cl_Node, T.n_Node_thing, nf_thing, k⟩⟩
/-- settle(node) -/
def sp_settle (C : Addr) : Sp := fun vs H Q _ => ∃ (n : Nd) (l r : Tre) (ab : V), vs = [.ref n.a] ∧ TAt C H (.nd n l r) ab ∧ n.a ∉ addrs l ∧ n.a ∉ addrs r ∧ ∀ H', TAt C H' (mk n l r) ab → Frame [n.a] H H' → Q .non H'
theorem ok_settle (T : Txt K mg) : FnOk P w K mg base CX0 2 T.a_settle T.d_settle ["node"] (sp_settle T.c_Node) := by
  have G_run_of : FnOk P w K mg base CX0 1 _ _ _ _ := ok_run_of T
  refine T.F_settle.ok sc_settle (fun vs H Q E h => ?_) (fun cdv A outer s H vs Q E hr h => ?_)
  · obtain ⟨n, l, r, ab, rfl, _⟩ := h
    rfl
  · obtain ⟨n, l, r, ab, rfl, ⟨⟨d, e⟩, hl, hr'⟩, nl, nr, k⟩ := h
    have m : n.a ∈ [n.a] := List.mem_singleton.mpr rfl
    have out : ∀ {t : Tre}, n.a ∉ addrs t → ∀ b ∈ addrs t, b ∉ [n.a] := fun h b hb z => h (by rw [← List.mem_singleton.mp z]; exact hb)
    refine ⟨_, (pss_cons (ps_if (pt_cmpR op_gt (pe_call G_run_of hr rfl T.g_run_of T.F_run_of.kp T.b_run_of .nil pass0 (pa_cons (pe_fld (pv 0) rfl) pa_nil)) (pe_call G_run_of hr rfl T.g_run_of T.F_run_of.kp T.b_run_of .nil pass0 (pa_cons (pe_fld (pv 0) rfl) pa_nil)) (nomark _))
  (pss_one (ps_asg (pe_tup (pa_cons (pe_fld (pv 0) rfl) (pa_cons (pe_fld (pv 0) rfl) pa_nil))) (pg_tup (by rfl) (pgs_cons (pg_fld (pv 0)) (pgs_cons (pg_fld (pv 0)) pgs_nil)))))
  pss_nil)
  (pss_one (ps_fld (pv 0) (pe_op op_add (pe_call G_run_of hr rfl T.g_run_of T.F_run_of.kp T.b_run_of .nil pass0 (pa_cons (pe_fld (pv 0) rfl) pa_nil)) pe_int) rfl))), ?_⟩
    refine ⟨_, rfl, n.a, T.c_Node, d, _, _, rfl, e, T.cl_Node, T.n_Node_right, nf_right, r, _, rfl, hr', _, rfl, n.a, T.c_Node, d, _, _, rfl, e, T.cl_Node, T.n_Node_left, nf_left, l, _, rfl, hl, _, _, rfl, rfl, _, rfl, t_2 (fun c => ?_) (fun c => ?_)⟩
    · -- the sides change
      have c' : l.rk < r.rk := by omega
      have em : mk n l r = .nd { n with k := l.rk + 1 } r l := by
        unfold mk
        rw [if_pos c']
      rw [em] at k
      refine ⟨_, rfl, n.a, T.c_Node, d, _, _, rfl, e, T.cl_Node, T.n_Node_right, nf_right, _, rfl, n.a, T.c_Node, d, _, _, rfl, e, T.cl_Node, T.n_Node_left, nf_left, (by show 2 ≤ sizeLine; decide), fun p hp => ?_⟩
      have s1 := same_new (o := .tup [ref r, ref l]) hp
      refine ⟨p, [ref r, ref l], rfl, SqT.of upd_same, rfl, _, _, rfl, _, rfl, n.a, T.c_Node, d, _, rfl, s1 _ _ e, T.cl_Node, T.n_Node_left, nf_len, ?_⟩
      rw [put_left]
      refine ⟨_, _, rfl, _, rfl, n.a, T.c_Node, d, _, rfl, upd_same, T.cl_Node, T.n_Node_right, nf_len, rfl, ?_⟩
      rw [put_right]
      have f1 : Frame [n.a] H (upd (upd (upd H p (.tup [ref r, ref l])) n.a (.ins T.c_Node d (nf n.i n.w n.h ab (ref r) (ref r) n.k))) n.a (.ins T.c_Node d (nf n.i n.w n.h ab (ref r) (ref l) n.k))) := ((Frame.new hp).trans (Frame.wr m)).trans (Frame.wr m)
      refine ⟨_, rfl, n.a, T.c_Node, d, _, _, rfl, upd_same, T.cl_Node, T.n_Node_right, nf_right, l, _, rfl, hl.keep f1 (out nl), _, _, rfl, rfl, _, rfl, n.a, T.c_Node, d, _, rfl, upd_same, T.cl_Node, T.n_Node_run, nf_len, ?_⟩
      rw [put_run]
      refine k _ ⟨⟨d, upd_same⟩, ?_, ?_⟩ (f1.trans (Frame.wr m))
      · exact hr'.keep (f1.trans (Frame.wr m)) (out nr)
      · exact hl.keep (f1.trans (Frame.wr m)) (out nl)
    · have c' : ¬ l.rk < r.rk := by omega
      have em : mk n l r = .nd { n with k := r.rk + 1 } l r := by
        unfold mk
        rw [if_neg c']
      rw [em] at k
      refine ⟨_, rfl, n.a, T.c_Node, d, _, _, rfl, e, T.cl_Node, T.n_Node_right, nf_right, r, _, rfl, hr', _, _, rfl, rfl, _, rfl, n.a, T.c_Node, d, _, rfl, e, T.cl_Node, T.n_Node_run, nf_len, ?_⟩
      rw [put_run]
      exact k _ ⟨⟨d, upd_same⟩, hl.keep (Frame.wr m) (out nl), hr'.keep (Frame.wr m) (out nr)⟩ (Frame.wr m)
end
/-! ### joining -/
section
variable {P : Program} {w : World} {K : PySem.W.Frag} {mg : Str → Option Value} {base : Heap}
theorem nodup_app {l m : List Addr} (h : (l ++ m).Nodup) : l.Nodup ∧ m.Nodup ∧ ∀ b ∈ l, b ∉ m := by
  obtain ⟨h1, h2, h3⟩ := List.nodup_append.mp h
  exact ⟨h1, h2, fun b hb z => h3 b hb b z rfl⟩
/-- meet(one, other), d at least the length of both right ways -/
def sp_meet (C : Addr) (d : Nat) : Sp := fun vs H Q _ => ∃ (s t : Tre) (x y : V), vs = [ref s, ref t] ∧ TAt C H s x ∧ TAt C H t y ∧ (addrs s ++ addrs t).Nodup ∧ s.spine + t.spine ≤ d ∧
  ∀ (H' : Hp) (p : Addr) (z : V), TAt C H' (join s t).1 z → H p = none → H' p = some (.tup [ref (join s t).1, .int (join s t).2]) → Frame (addrs s ++ addrs t) H H' → Q (.ref p) H'
theorem ok_meet (T : Txt K mg) : ∀ d : Nat, FnOk P w K mg base CX0 (d + 3) T.a_meet T.d_meet ["one", "other"] (sp_meet T.c_Node d)
  | 0 => by
    refine T.F_meet.ok sc_meet (fun vs H Q E h => ?_) (fun cdv A outer s H vs Q E hr h => ?_)
    · obtain ⟨s, t, x, y, rfl, _⟩ := h
      rfl
    · obtain ⟨s, t, x, y, rfl, hs, ht, hN, hd, k⟩ := h
      refine ⟨_, pss_cons (ps_if (pt_cmpR op_isN (pv 0) pe_non (nomark _)) (pss_one (ps_ret (pe_tup (pa_cons (pv 1) (pa_cons pe_int pa_nil))))) pss_nil) pss_never, ?_⟩
      cases s with
      | nil =>
        refine ⟨_, rfl, rfl, _, rfl, t_yes rfl ⟨_, rfl, (by show 2 ≤ sizeLine; decide), fun p hp => ?_⟩⟩
        rw [join_nil] at k
        exact k _ p y (ht.same (same_new hp)) hp upd_same (Frame.new hp)
      | nd n l r =>
        simp only [spine] at hd
        omega
  | d + 1 => by
    have G_meet : FnOk P w K mg base CX0 (d + 3) _ _ _ _ := ok_meet T d
    have G_lesser : FnOk P w K mg base CX0 (d + 3) _ _ _ _ := (ok_lesser T).mono (by omega)
    have G_settle : FnOk P w K mg base CX0 (d + 3) _ _ _ _ := (ok_settle T).mono (by omega)
    refine T.F_meet.ok sc_meet (fun vs H Q E h => ?_) (fun cdv A outer s H vs Q E hr h => ?_)
    · obtain ⟨s, t, x, y, rfl, _⟩ := h
      rfl
    · obtain ⟨s, t, x, y, rfl, hs, ht, hN, hd, k⟩ := h
      refine ⟨_, (pss_cons (ps_if (pt_cmpR op_isN (pv 0) pe_non (nomark _))
  (pss_one (ps_ret (pe_tup (pa_cons (pv 1) (pa_cons pe_int pa_nil)))))
  pss_nil)
  (pss_cons (ps_if (pt_cmpR op_isN (pv 1) pe_non (nomark _))
  (pss_one (ps_ret (pe_tup (pa_cons (pv 0) (pa_cons pe_int pa_nil)))))
  pss_nil)
  (C8.pss_cut (ps_if (pt_val (pe_call G_lesser hr rfl T.g_lesser T.F_lesser.kp T.b_lesser .nil pass0 (pa_cons (pv 1) (pa_cons (pv 0) pa_nil))))
  (pss_one (ps_par (by rfl) sc_meet.nd (i := 0) (j := 1) rfl rfl (by decide) rfl rfl (pa_cons (pv 1) (pa_cons (pv 0) pa_nil)) (by rfl)))
  pss_nil)
  (pss_cons (ps_asg (pe_call G_meet hr rfl T.g_meet T.F_meet.kp T.b_meet .nil pass0 (pa_cons (pe_fld (pv 0) rfl) (pa_cons (pv 1) pa_nil))) (pg_tup (by rfl) (pgs_cons (pg_name (i := 2) sc_meet.nd rfl (.inl rfl)) (pgs_cons (pg_name (i := 3) sc_meet.nd rfl (.inl rfl)) pgs_nil))))
  (pss_cons (ps_fld (pv 0) (pv 2) rfl)
  (pss_cons (ps_fld (pv 2) (pv 0) rfl)
  (pss_cons (ps_expr (pe_call G_settle hr rfl T.g_settle T.F_settle.kp T.b_settle .nil pass0 (pa_cons (pv 0) pa_nil)))
  (pss_one (ps_ret (pe_tup (pa_cons (pv 0) (pa_cons (pe_op op_add (pv 3) pe_int) pa_nil)))))))))))), ?_⟩
      cases s with
      | nil =>
        refine ⟨_, rfl, rfl, _, rfl, t_yes rfl ⟨_, rfl, (by show 2 ≤ sizeLine; decide), fun p hp => ?_⟩⟩
        rw [join_nil] at k
        exact k _ p y (ht.same (same_new hp)) hp upd_same (Frame.new hp)
      | nd n l r =>
      refine ⟨_, rfl, rfl, _, rfl, t_no (by intro z; cases z) ?_⟩
      cases t with
      | nil =>
        refine ⟨_, rfl, rfl, _, rfl, t_yes rfl ⟨_, rfl, (by show 2 ≤ sizeLine; decide), fun p hp => ?_⟩⟩
        rw [join_nil2] at k
        exact k _ p x (hs.same (same_new hp)) hp upd_same (Frame.new hp)
      | nd m p q =>
      refine ⟨_, rfl, rfl, _, rfl, t_no (by intro z; cases z) ?_⟩
      -- the lesser top first
      refine ⟨fun σ H1 => Same H H1 ∧ ∃ (n' : Nd) (l' r' t' : Tre) (x' y' : V), σ = [some (.ref n'.a), some (ref t'), none, none] ∧ TAt T.c_Node H1 (.nd n' l' r') x' ∧ TAt T.c_Node H1 t' y' ∧ t' ≠ .nil ∧
        (addrs (.nd n' l' r') ++ addrs t').Perm (addrs (.nd n l r) ++ addrs (.nd m p q)) ∧ r'.spine + t'.spine ≤ d ∧
        (join (.nd n l r) (.nd m p q)) = (mk n' l' (join r' t').1, (join r' t').2 + 1), ?_, ?_⟩
      · refine ⟨_, rfl, _, rfl, m, n, _, _, _, _, _, _, rfl, ht.1, hs.1, fun H1 s1 => ⟨_, rfl, t_2 (fun c => ?_) (fun c => ?_)⟩⟩
        · refine ⟨_, rfl, _, rfl, _, _, rfl, s1, m, p, q, .nd n l r, _, _, rfl, ht.same s1, hs.same s1, (by intro z; cases z), List.perm_append_comm, ?_, ?_⟩
          · simp only [spine] at hd ⊢
            omega
          · rw [join_nd, if_pos c]
        · refine ⟨s1, n, l, r, .nd m p q, _, _, rfl, hs.same s1, ht.same s1, (by intro z; cases z), List.Perm.refl _, ?_, ?_⟩
          · simp only [spine] at hd ⊢
            omega
          · rw [join_nd, if_neg c]
      rintro σ H1 ⟨s1, n', l', r', t', x', y', rfl, ⟨⟨dx, e⟩, hl, hr'⟩, ht', t0, hp, hd', ej⟩
      have hN' := hp.symm.nodup_iff.mp hN
      rw [addrs_nd, List.cons_append, List.nodup_cons, List.append_assoc] at hN'
      obtain ⟨na, hN2⟩ := hN'
      obtain ⟨nl, nrt, dl⟩ := nodup_app hN2
      -- below, meetings = meet(one.right, other)
      refine ⟨_, rfl, n'.a, T.c_Node, dx, _, _, rfl, e, T.cl_Node, T.n_Node_right, nf_right, _, rfl, r', t', _, _, rfl, hr', ht', nrt, hd', fun H2 u z h2 hu hu2 f2 => ?_⟩
      refine ⟨u, _, rfl, SqT.of hu2, rfl, _, _, rfl, _, _, rfl, rfl, ?_⟩
      have na1 : n'.a ∉ addrs r' ++ addrs t' := fun z => na (List.mem_append_right _ z)
      have e2 : H2 n'.a = some (.ins T.c_Node dx (nf n'.i n'.w n'.h x' (ref l') (ref r') n'.k)) := f2 _ _ e na1
      have pb : ∀ b, b ∈ addrs (join r' t').1 ↔ b ∈ addrs r' ++ addrs t' := fun b => (join_addrs r' t').mem_iff
      -- one.right = below
      refine ⟨_, rfl, _, rfl, n'.a, T.c_Node, dx, _, rfl, e2, T.cl_Node, T.n_Node_right, nf_len, ?_⟩
      rw [put_right]
      -- below.above = one
      cases eb : (join r' t').1 with
      | nil =>
        exfalso
        have q1 := (join_addrs r' t').length_eq
        rw [eb, addrs_nil, List.length_append] at q1
        cases t' with
        | nil => exact t0 rfl
        | nd a b c =>
          rw [addrs_nd] at q1
          simp at q1
      | nd b bl br =>
      rw [eb] at h2 pb
      have nb : b.a ≠ n'.a := fun z => na1 (by rw [← z]; exact (pb b.a).mp (by rw [addrs_nd]; exact List.mem_cons_self))
      have na3 : n'.a ∉ addrs (.nd b bl br) := fun z => na1 ((pb _).mp z)
      have f3 : Frame [n'.a] H2 (upd H2 n'.a (.ins T.c_Node dx (nf n'.i n'.w n'.h x' (ref l') (ref (.nd b bl br)) n'.k))) := Frame.wr (List.mem_singleton.mpr rfl)
      have h3 := h2.keep f3 (fun c hc z => na3 (by rw [← List.mem_singleton.mp z]; exact hc))
      obtain ⟨db, e3⟩ := id h3.1
      refine ⟨_, rfl, _, rfl, b.a, T.c_Node, db, _, rfl, e3, T.cl_Node, T.n_Node_above, nf_len, ?_⟩
      have hNb : (addrs (.nd b bl br)).Nodup := by
        rw [← eb]
        exact (join_addrs r' t').symm.nodup_iff.mp nrt
      have h4 := h3.above (x := .ref n'.a) hNb e3
      generalize hH4 : upd (upd H2 n'.a (.ins T.c_Node dx (nf n'.i n'.w n'.h x' (ref l') (ref (.nd b bl br)) n'.k))) b.a (.ins T.c_Node db (putF ("above" : Str) (.ref n'.a) (nf b.i b.w b.h z (ref bl) (ref br) b.k))) = H4 at h4 ⊢
      have f4 : Frame [n'.a, b.a] H2 H4 := by
        rw [← hH4]
        exact (f3.mono fun c hc => by rw [List.mem_singleton.mp hc]; exact List.mem_cons_self).trans (Frame.wr (by simp))
      have e4 : H4 n'.a = some (.ins T.c_Node dx (nf n'.i n'.w n'.h x' (ref l') (ref (.nd b bl br)) n'.k)) := by
        rw [← hH4, upd_ne nb.symm, upd_same]
      have nlb : ∀ c ∈ addrs l', c ∉ [n'.a, b.a] := fun c hc z => by
        rcases List.mem_cons.mp z with z | z
        · rw [z] at hc
          exact na (List.mem_append_left _ hc)
        · rw [List.mem_singleton.mp z] at hc
          exact dl _ hc ((pb b.a).mp (by rw [addrs_nd]; exact List.mem_cons_self))
      have hl2 : TAt T.c_Node H2 l' (.ref n'.a) := hl.keep f2 fun c hc => dl c hc
      -- settle(one)
      refine ⟨_, rfl, n', l', .nd b bl br, x', rfl, ⟨⟨dx, e4⟩, hl2.keep f4 nlb, h4⟩, fun z => na (List.mem_append_left _ z), na3, fun H5 h5 f5 => ?_⟩
      -- return (one, meetings + 1)
      refine ⟨_, rfl, _, rfl, _, _, rfl, rfl, (by show 2 ≤ sizeLine; decide), fun v hv => ?_⟩
      have sv := same_new (o := .tup [.ref n'.a, .int (((join r' t').2 : Int) + 1)]) hv
      have hne : ∀ {a : Addr} {o : HO}, H a = some o → ∃ o', H5 a = some o' := fun {a o} h => by
        have h1 := s1 _ _ h
        by_cases c1 : a ∈ addrs r' ++ addrs t'
        · obtain ⟨dd, ff, hh⟩ := h3.there a ((pb a).mpr c1)
          by_cases c2 : a = n'.a
          · rw [c2] at c1
            exact absurd c1 na1
          · by_cases c3 : a = b.a
            · refine ⟨_, f5 a _ (by rw [c3, ← hH4, upd_same]) (fun z => c2 (List.mem_singleton.mp z))⟩
            · refine ⟨_, f5 a _ (by rw [← hH4, upd_ne c3]; exact hh) (fun z => c2 (List.mem_singleton.mp z))⟩
        · by_cases c2 : a = n'.a
          · rw [c2]
            obtain ⟨dd, ff, hh⟩ := h5.there n'.a (by
              have := (mk_addrs n' l' (.nd b bl br)).mem_iff (a := n'.a)
              exact this.mpr List.mem_cons_self)
            exact ⟨_, hh⟩
          · have c3 : a ≠ b.a := fun z => c1 (by rw [z]; exact (pb b.a).mp (by rw [addrs_nd]; exact List.mem_cons_self))
            exact ⟨_, f5 a _ (f4 a _ (f2 a _ h1 c1) (by simp [c2, c3])) (fun z => c2 (List.mem_singleton.mp z))⟩
      rw [ej, eb] at k
      have er : ref (mk n' l' (.nd b bl br)) = .ref n'.a := by unfold mk; split <;> rfl
      rw [er] at k
      refine k _ v x' (h5.same sv) ?_ ?_ ?_
      · cases c : H v with
        | none => rfl
        | some o =>
          obtain ⟨o', c'⟩ := hne c
          rw [hv] at c'
          cases c'
      · exact upd_same
      · have F2 : Frame (addrs (.nd n l r) ++ addrs (.nd m p q)) H H2 := (Frame.same s1).trans (f2.mono fun c hc => hp.mem_iff.mp (by
          rw [addrs_nd, List.cons_append, List.append_assoc]
          exact List.mem_cons_of_mem _ (List.mem_append_right _ hc)))
        have F4 : Frame (addrs (.nd n l r) ++ addrs (.nd m p q)) H2 H4 := f4.mono fun c hc => hp.mem_iff.mp (by
          rw [addrs_nd, List.cons_append, List.append_assoc]
          rcases List.mem_cons.mp hc with z | z
          · rw [z]
            exact List.mem_cons_self
          · rw [List.mem_singleton.mp z]
            exact List.mem_cons_of_mem _ (List.mem_append_right _ ((pb b.a).mp (by rw [addrs_nd]; exact List.mem_cons_self))))
        have F5 : Frame (addrs (.nd n l r) ++ addrs (.nd m p q)) H4 H5 := f5.mono fun c hc => hp.mem_iff.mp (by
          rw [addrs_nd, List.cons_append, List.append_assoc, List.mem_singleton.mp hc]
          exact List.mem_cons_self)
        exact ((F2.trans F4).trans F5).trans (Frame.same sv)
/-- joined(one, other) -/
def sp_joined (C : Addr) (d : Nat) : Sp := fun vs H Q _ => ∃ (s t : Tre) (x y : V), vs = [ref s, ref t] ∧ TAt C H s x ∧ TAt C H t y ∧ (addrs s ++ addrs t).Nodup ∧ s.spine + t.spine ≤ d ∧
  ∀ (H' : Hp) (p : Addr), TAt C H' (join s t).1 .non → H p = none → H' p = some (.tup [ref (join s t).1, .int (join s t).2]) → Frame (addrs s ++ addrs t) H H' → Q (.ref p) H'
theorem ok_joined (T : Txt K mg) (d : Nat) : FnOk P w K mg base CX0 (d + 4) T.a_joined T.d_joined ["one", "other"] (sp_joined T.c_Node d) := by
  have G_meet : FnOk P w K mg base CX0 (d + 3) _ _ _ _ := ok_meet T d
  refine T.F_joined.ok sc_joined (fun vs H Q E h => ?_) (fun cdv A outer s H vs Q E hr h => ?_)
  · obtain ⟨s, t, x, y, rfl, _⟩ := h
    rfl
  · obtain ⟨s, t, x, y, rfl, hs, ht, hN, hd, k⟩ := h
    refine ⟨_, (pss_cons (ps_asg (pe_call G_meet hr rfl T.g_meet T.F_meet.kp T.b_meet .nil pass0 (pa_cons (pv 0) (pa_cons (pv 1) pa_nil))) (pg_tup (by rfl) (pgs_cons (pg_name (i := 2) sc_joined.nd rfl (.inl rfl)) (pgs_cons (pg_name (i := 3) sc_joined.nd rfl (.inl rfl)) pgs_nil))))
  (pss_cons (ps_if (pt_cmpR op_notN (pv 2) pe_non (nomark _))
  (pss_one (ps_fld (pv 2) pe_non rfl))
  pss_nil)
  (pss_one (ps_ret (pe_tup (pa_cons (pv 2) (pa_cons (pv 3) pa_nil))))))), ?_⟩
    refine ⟨_, rfl, _, rfl, s, t, x, y, rfl, hs, ht, hN, hd, fun H1 u z h1 hu hu1 f1 => ?_⟩
    refine ⟨u, _, rfl, SqT.of hu1, rfl, _, _, rfl, _, _, rfl, rfl, ?_⟩
    have pb := join_addrs s t
    cases eb : (join s t).1 with
    | nil =>
      rw [eb] at k
      refine ⟨_, rfl, rfl, _, rfl, iteF ?_⟩
      refine ⟨_, rfl, _, rfl, (by show 2 ≤ sizeLine; decide), fun v hv => ?_⟩
      refine k _ v trivial ?_ upd_same (f1.trans (Frame.new hv))
      cases c : H v with
      | none => rfl
      | some o =>
        have c2 : v ∉ addrs s ++ addrs t := fun z => by
          have := pb.mem_iff.mpr z
          rw [eb] at this
          cases this
        rw [f1 _ _ c c2] at hv
        cases hv
    | nd b bl br =>
      rw [eb] at h1 pb k
      obtain ⟨db, e1⟩ := id h1.1
      refine ⟨_, rfl, rfl, _, rfl, iteT ?_⟩
      refine ⟨_, rfl, b.a, T.c_Node, db, _, rfl, e1, T.cl_Node, T.n_Node_above, nf_len, ?_⟩
      have h2 := h1.above (x := .non) (pb.symm.nodup_iff.mp hN) e1
      refine ⟨_, rfl, _, rfl, (by show 2 ≤ sizeLine; decide), fun v hv => ?_⟩
      have f2 : Frame (addrs s ++ addrs t) H1 (upd H1 b.a (.ins T.c_Node db (putF ("above" : Str) .non (nf b.i b.w b.h z (ref bl) (ref br) b.k)))) := Frame.wr (pb.mem_iff.mp (by rw [addrs_nd]; exact List.mem_cons_self))
      refine k _ v (h2.same (same_new hv)) ?_ upd_same ((f1.trans f2).trans (Frame.new hv))
      cases c : H v with
      | none => rfl
      | some o =>
        exfalso
        by_cases c2 : v ∈ addrs s ++ addrs t
        · obtain ⟨dd, ff, hh⟩ := h2.there v (pb.mem_iff.mpr c2)
          rw [hv] at hh
          cases hh
        · rw [f2 _ _ (f1 _ _ c c2) c2] at hv
          cases hv
end
/-! ### the things of a tree in a row -/
section
variable {P : Program} {w : World} {K : PySem.W.Frag} {mg : Str → Option Value} {base : Heap}
def refs (l : List Nd) : List V := l.map fun n => .ref n.a
def sizes : List Tre → Nat
  | [] => 0
  | t :: ts => t.size + sizes ts
theorem sizes_app : ∀ a b : List Tre, sizes (a ++ b) = sizes a + sizes b
  | [], b => by
    show sizes b = 0 + sizes b
    omega
  | t :: a, b => by
    show t.size + sizes (a ++ b) = t.size + sizes a + sizes b
    rw [sizes_app a b]
    omega
/-- how long the list at a is -/
def lenAt (H : Hp) (a : Addr) : Nat := match H a with
  | some (.lst xs) => xs.length
  | _ => 0
theorem lenAt_of {H : Hp} {a : Addr} {xs : List V} (h : H a = some (.lst xs)) : lenAt H a = xs.length := by
  unfold lenAt
  rw [h]
/-- in_order(top) -/
def sp_in_order (C : Addr) : Sp := fun vs H Q _ => ∃ (t : Tre) (ab : V), vs = [ref t] ∧ TAt C H t ab ∧ t.size ≤ 90000 ∧ ∀ (H' : Hp) (p : Addr), Same H H' → H p = none → H' p = some (.lst (refs t.nodes)) → Q (.ref p) H'
theorem ok_in_order (T : Txt K mg) : FnOk P w K mg base CX0 1 T.a_in_order T.d_in_order ["top"] (sp_in_order T.c_Node) := by
  refine T.F_in_order.ok sc_in_order (fun vs H Q E h => ?_) (fun cdv A outer s H vs Q E hr h => ?_)
  · obtain ⟨t, ab, rfl, _⟩ := h
    rfl
  · obtain ⟨t, ab, rfl, ht, hsz, k⟩ := h
    refine ⟨_, (pss_cons (ps_set (i := 1) sc_in_order.nd rfl (.inl rfl) (pe_lst pa_nil))
  (pss_cons (ps_set (i := 2) sc_in_order.nd rfl (.inl rfl) (pe_lst (pa_cons (pv 0) pa_nil)))
  (pss_cons (ps_while PassesOwn.never (pt_truth (pv 2) (by intro _; rfl))
  (pss_cons (ps_set (i := 3) sc_in_order.nd rfl (.inl rfl) (pe_bm0 PySem.F.plainAttrs_list PySem.F.slot_list_pop PySem.F.type_list_pop mt_pop (pv 2)))
  (pss_one (ps_if (pt_cmpR op_notN (pv 3) pe_non (nomark _))
  (pss_cons (ps_expr (pe_bm PySem.F.plainAttrs_list PySem.F.slot_list_append PySem.F.type_list_append mt_append (pv 1) (pa_cons (pv 3) pa_nil)))
  (pss_cons (ps_expr (pe_bm PySem.F.plainAttrs_list PySem.F.slot_list_append PySem.F.type_list_append mt_append (pv 2) (pa_cons (pe_fld (pv 3) rfl) pa_nil)))
  (pss_one (ps_expr (pe_bm PySem.F.plainAttrs_list PySem.F.slot_list_append PySem.F.type_list_append mt_append (pv 2) (pa_cons (pe_fld (pv 3) rfl) pa_nil))))))
  pss_nil))))
  (pss_one (ps_ret (pv 1)))))), ?_⟩
    refine ⟨by show 0 ≤ sizeLine; omega, fun p hp => ?_⟩
    refine ⟨_, rfl, by show 1 ≤ sizeLine; decide, fun q hq => ?_⟩
    have hqp : q ≠ p := fun e => by
      rw [e, upd_same] at hq
      cases hq
    have hq0 : H q = none := by
      rw [upd_ne hqp] at hq
      exact hq
    dsimp only [gName]
    refine while_by (fun σ H' => Same H H' ∧ ∃ (ws : List Tre) (ds : List Nd) (v : Option V), σ = [some (ref t), some (.ref p), some (.ref q), v] ∧ H' p = some (.lst (refs ds)) ∧ H' q = some (.lst (ws.map ref)) ∧
        (∀ x ∈ ws, ∃ y, TAt T.c_Node H x y) ∧ ds ++ (ws.reverse.flatMap Tre.nodes) = t.nodes ∧ ws.length + sizes ws ≤ t.size + 1)
      (fun _ H' => 4 * (t.size + 1) + lenAt H' q - 3 * lenAt H' p) ?_ ?_ ?_
    · refine ⟨(same_new hp).trans (same_new hq), [t], [], none, rfl, ?_, upd_same, ?_, ?_, ?_⟩
      · rw [upd_ne hqp.symm, upd_same]
        rfl
      · intro x hx
        rw [List.mem_singleton.mp hx]
        exact ⟨ab, ht⟩
      · show [] ++ (t.nodes ++ []) = t.nodes
        rw [List.append_nil, List.nil_append]
      · show 1 + (t.size + 0) ≤ t.size + 1
        omega
    · rintro σ H' ⟨sm, ws, ds, v, rfl, ep, eq, hw, hds, hlen⟩
      refine ⟨_, rfl, _, .inl ⟨_, SqL.of eq, rfl⟩, ?_⟩
      rcases List.eq_nil_or_concat ws with rfl | ⟨us, x, rfl⟩
      · -- all told
        refine iteF ⟨_, rfl, ?_⟩
        have e : ds = t.nodes := by
          rw [← hds]
          show ds = ds ++ []
          rw [List.append_nil]
        rw [e] at ep
        exact k _ p sm hp ep
      · have hb : (!((us.concat x).map ref).isEmpty) = true := by
          rw [List.concat_eq_append, List.map_append]
          cases us <;> rfl
        rw [hb]
        refine iteT ?_
        rw [List.concat_eq_append] at eq hw hds hlen
        rw [List.map_append] at eq
        -- node = waiting.pop()
        have last : ((us.map ref) ++ [ref x])[((us.map ref) ++ [ref x]).length - 1]? = some (ref x) := by
          rw [List.length_append, List.length_singleton, Nat.add_sub_cancel, List.getElem?_append_right (Nat.le_refl _), Nat.sub_self]
          rfl
        refine ⟨_, rfl, .inl ⟨rfl, _, SqL.of eq⟩, q, _, _, rfl, rfl, eq, last, ?_⟩
        rw [show ([x].map ref : List V) = [ref x] from rfl, List.dropLast_concat]
        have hx : ∃ y, TAt T.c_Node H x y := hw x (List.mem_append_right _ (List.mem_singleton.mpr rfl))
        have sm1 : Same H (upd H' q (.lst (us.map ref))) := fun b o e => by
          rw [upd_ne (ne_of_none e hq0)]
          exact sm b o e
        have ep1 : (upd H' q (.lst (us.map ref))) p = some (.lst (refs ds)) := by
          rw [upd_ne hqp.symm]
          exact ep
        have m0 : 4 * (t.size + 1) + lenAt H' q - 3 * lenAt H' p = 4 * (t.size + 1) + (us.length + 1) - 3 * ds.length := by
          rw [lenAt_of eq, lenAt_of ep]
          unfold refs
          simp only [List.length_append, List.length_map, List.length_singleton]
        have tot : ds.length + sizes us + x.size = t.size := by
          have e := congrArg List.length hds
          rw [List.length_append, List.reverse_append, size_nodes] at e
          have e2 : ∀ l : List Tre, (l.flatMap Tre.nodes).length = sizes l := by
            intro l
            induction l with
            | nil => rfl
            | cons a l ih =>
              rw [List.flatMap_cons, List.length_append, ih, size_nodes]
              rfl
          have e3 : ∀ l : List Tre, sizes l.reverse = sizes l := by
            intro l
            induction l with
            | nil => rfl
            | cons a l ih =>
              rw [List.reverse_cons, sizes_app, ih]
              show sizes l + (a.size + 0) = a.size + sizes l
              omega
          rw [e2, sizes_app, e3] at e
          have e4 : sizes ([x] : List Tre) = x.size := by
            show x.size + 0 = x.size
            omega
          rw [e4] at e
          have e5 : sizes us.reverse = sizes us := e3 us
          omega
        have hlen' : us.length + 1 + (sizes us + x.size) ≤ t.size + 1 := by
          rw [List.length_append, sizes_app] at hlen
          have : sizes [x] = x.size := by
            show x.size + 0 = x.size
            omega
          simp only [List.length_singleton] at hlen
          omega
        rw [List.reverse_append] at hds
        cases x with
        | nil =>
          refine ⟨_, rfl, rfl, _, rfl, iteF ?_⟩
          refine ⟨⟨sm1, us, ds, _, rfl, ep1, upd_same, fun z hz => hw z (List.mem_append_left _ hz), hds, by omega⟩, ?_⟩
          rw [m0, lenAt_of upd_same, lenAt_of ep1]
          unfold refs
          rw [List.length_map, List.length_map]
          omega
        | nd n l r =>
          obtain ⟨y, ⟨⟨dx, e⟩, hl, hr'⟩⟩ := hx
          refine ⟨_, rfl, rfl, _, rfl, iteT ?_⟩
          have np : p ≠ n.a := fun z => by
            rw [← z, hp] at e
            cases e
          have nq : q ≠ n.a := fun z => by
            rw [← z, hq0] at e
            cases e
          have sz0 : (Tre.nd n l r).size = l.size + r.size + 1 := rfl
          -- nodes.append(node)
          refine ⟨_, rfl, .inl ⟨rfl, _, SqL.of ep1⟩, _, rfl, p, _, _, rfl, rfl, ep1, Evl.sz_lt (by unfold refs; rw [List.length_map]; omega), ?_⟩
          have e2 : (upd (upd H' q (.lst (us.map ref))) p (.lst (refs ds ++ [.ref n.a]))) q = some (.lst (us.map ref)) := by
            rw [upd_ne hqp, upd_same]
          have e3 : (upd (upd H' q (.lst (us.map ref))) p (.lst (refs ds ++ [.ref n.a]))) n.a = some (.ins T.c_Node dx (nf n.i n.w n.h y (ref l) (ref r) n.k)) := by
            rw [upd_ne np.symm]
            exact sm1 _ _ e
          -- waiting.append(node.right)
          refine ⟨_, rfl, .inl ⟨rfl, _, SqL.of e2⟩, _, rfl, n.a, T.c_Node, dx, _, _, rfl, e3, T.cl_Node, T.n_Node_right, nf_right, q, _, _, rfl, rfl, e2, Evl.sz_lt (by rw [List.length_map]; omega), ?_⟩
          generalize hH1 : upd (upd (upd H' q (.lst (us.map ref))) p (.lst (refs ds ++ [ref (.nd n l r)]))) q (.lst (us.map ref ++ [ref r])) = H1
          have e4 : H1 q = some (.lst (us.map ref ++ [ref r])) := by
            rw [← hH1, upd_same]
          have e5 : H1 n.a = some (.ins T.c_Node dx (nf n.i n.w n.h y (ref l) (ref r) n.k)) := by
            rw [← hH1, upd_ne nq.symm]
            exact e3
          have e6 : H1 p = some (.lst (refs ds ++ [.ref n.a])) := by
            rw [← hH1, upd_ne hqp.symm, upd_same]
            rfl
          have sm2 : Same H H1 := fun b o hb => by
            rw [← hH1, upd_ne (ne_of_none hb hq0), upd_ne (ne_of_none hb hp)]
            exact sm1 b o hb
          -- waiting.append(node.left)
          refine ⟨_, rfl, .inl ⟨rfl, _, SqL.of e4⟩, _, rfl, n.a, T.c_Node, dx, _, _, rfl, e5, T.cl_Node, T.n_Node_left, nf_left, q, _, _, rfl, rfl, e4, Evl.sz_lt (by rw [List.length_append, List.length_map, List.length_singleton]; omega), ?_⟩
          have e7 : (upd H1 q (.lst (us.map ref ++ [ref r] ++ [ref l]))) p = some (.lst (refs ds ++ [.ref n.a])) := by
            rw [upd_ne hqp.symm]
            exact e6
          refine ⟨⟨fun b o hb => ?_, us ++ [r, l], ds ++ [n], _, rfl, ?_, ?_, fun z hz => ?_, ?_, ?_⟩, ?_⟩
          · rw [upd_ne (ne_of_none hb hq0)]
            exact sm2 b o hb
          · rw [e7]
            unfold refs
            rw [List.map_append]
            rfl
          · rw [upd_same, List.map_append, List.append_assoc]
            rfl
          · rcases List.mem_append.mp hz with z1 | z1
            · exact hw z (List.mem_append_left _ z1)
            · rcases List.mem_cons.mp z1 with z2 | z2
              · rw [z2]
                exact ⟨_, hr'⟩
              · rw [List.mem_singleton.mp z2]
                exact ⟨_, hl⟩
          · rw [← hds, List.reverse_append]
            show ds ++ [n] ++ (l.nodes ++ (r.nodes ++ us.reverse.flatMap Tre.nodes)) = ds ++ ((n :: (l.nodes ++ r.nodes)) ++ us.reverse.flatMap Tre.nodes)
            simp only [List.append_assoc, List.cons_append, List.nil_append]
          · rw [List.length_append, sizes_app]
            show us.length + 2 + (sizes us + (r.size + (l.size + 0))) ≤ t.size + 1
            omega
          · rw [m0, lenAt_of upd_same, lenAt_of e7]
            unfold refs
            simp only [List.length_append, List.length_map, List.length_singleton]
            omega
    · rintro σ H' Q1 Q2 hq2 ⟨v, e, b, e2, q2⟩
      exact ⟨v, e, b, e2, hq2 _ _ q2⟩
end
/-! ### a place in a tree, in memory; taking it out -/
namespace Tre
def abv : List Up → V
  | [] => .non
  | f :: _ => .ref f.n.a
def upAddrs (fs : List Up) : List Addr := (upDats fs).map Dat.a
theorem upAddrs_cons (f : Up) (fs : List Up) : upAddrs (f :: fs) = f.n.a :: (addrs f.sib ++ upAddrs fs) := by
  unfold upAddrs addrs
  show (f.n.dat :: (dats f.sib ++ upDats fs)).map Dat.a = _
  rw [List.map_cons, List.map_append]
  rfl
theorem plug_addrs (fs : List Up) (t : Tre) : (addrs (plug t fs)).Perm (addrs t ++ upAddrs fs) := by
  unfold addrs upAddrs
  rw [← List.map_append]
  exact (plug_dats fs t).map Dat.a
theorem mk1_addrs (f : Up) (t : Tre) : (addrs (mk1 f t)).Perm (addrs t ++ (f.n.a :: addrs f.sib)) := by
  have h := (mk1_dats f t).map Dat.a
  rw [List.map_append, List.map_cons] at h
  exact h
theorem ref_put1 (f : Up) (t : Tre) : ref (put1 f t) = .ref f.n.a := by
  unfold put1
  split <;> rfl
theorem ref_mk (n : Nd) (l r : Tre) : ref (mk n l r) = .ref n.a := by
  unfold mk
  split <;> rfl
theorem ref_mk1 (f : Up) (t : Tre) : ref (mk1 f t) = .ref f.n.a := by
  unfold mk1
  split <;> exact ref_mk _ _ _
theorem ref_plug : ∀ (fs : List Up) (t u : Tre), fs ≠ [] ∨ ref t = ref u → ref (plug t fs) = ref (plug u fs)
  | [], t, u, h => by
    rcases h with h | h
    · exact absurd rfl h
    · exact h
  | f :: fs, t, u, _ => ref_plug fs (put1 f t) (put1 f u) (.inr (by rw [ref_put1, ref_put1]))
theorem ref_climb : ∀ (fs : List Up) (t u : Tre), fs ≠ [] ∨ ref t = ref u → ref (climb t fs).1 = ref (plug u fs)
  | [], t, u, h => by
    rcases h with h | h
    · exact absurd rfl h
    · exact h
  | f :: fs, t, u, _ => by
    have e : ref (mk1 f t) = ref (put1 f u) := by rw [ref_mk1, ref_put1]
    unfold climb
    split
    · exact ref_plug fs (mk1 f t) (put1 f u) (.inr e)
    · exact ref_climb fs (mk1 f t) (put1 f u) (.inr e)
end Tre
def UAt (C : Addr) (H : Hp) : V → List Up → Prop
  | _, [] => True
  | c, f :: fs => NodeAt C H f.n (abv fs) (if f.right = true then ref f.sib else c) (if f.right = true then c else ref f.sib) ∧ TAt C H f.sib (.ref f.n.a) ∧ UAt C H (.ref f.n.a) fs
section
variable {C : Addr} {H H' : Hp} {S : List Addr}
theorem put1_at (f : Up) (fs : List Up) (t : Tre) : TAt C H (put1 f t) (abv fs) ↔ TAt C H t (.ref f.n.a) ∧ NodeAt C H f.n (abv fs) (if f.right = true then ref f.sib else ref t) (if f.right = true then ref t else ref f.sib) ∧ TAt C H f.sib (.ref f.n.a) := by
  unfold put1
  by_cases c : f.right = true
  · rw [if_pos c, if_pos c, if_pos c]
    exact ⟨fun ⟨a, b, d⟩ => ⟨d, a, b⟩, fun ⟨d, a, b⟩ => ⟨a, b, d⟩⟩
  · rw [if_neg c, if_neg c, if_neg c]
    exact ⟨fun ⟨a, b, d⟩ => ⟨b, a, d⟩, fun ⟨b, a, d⟩ => ⟨a, b, d⟩⟩
theorem plug_at : ∀ (fs : List Up) (t : Tre), TAt C H (plug t fs) .non ↔ TAt C H t (abv fs) ∧ UAt C H (ref t) fs
  | [], t => ⟨fun h => ⟨h, trivial⟩, fun h => h.1⟩
  | f :: fs, t => by
    have ih := plug_at fs (put1 f t)
    rw [ref_put1] at ih
    refine ⟨fun h => ?_, fun h => ?_⟩
    · obtain ⟨h1, h2⟩ := ih.mp h
      obtain ⟨a, b, c⟩ := (put1_at f fs t).mp h1
      exact ⟨a, b, c, h2⟩
    · obtain ⟨a, b, c, h2⟩ := h
      exact ih.mpr ⟨(put1_at f fs t).mpr ⟨a, b, c⟩, h2⟩
theorem UAt.keep : ∀ {fs : List Up} {c : V}, UAt C H c fs → Frame S H H' → (∀ b ∈ upAddrs fs, b ∉ S) → UAt C H' c fs
  | [], _, _, _, _ => trivial
  | f :: fs, c, h, fr, hs => by
    rw [upAddrs_cons] at hs
    exact ⟨h.1.keep fr (hs _ List.mem_cons_self), h.2.1.keep fr fun b hb => hs b (List.mem_cons_of_mem _ (List.mem_append_left _ hb)), UAt.keep h.2.2 fr fun b hb => hs b (List.mem_cons_of_mem _ (List.mem_append_right _ hb))⟩
end
section
variable {P : Program} {w : World} {K : PySem.W.Frag} {mg : Str → Option Value} {base : Heap}
/-- cut_out(node) -/
def sp_cut_out (C : Addr) : Sp := fun vs H Q _ => ∃ (n : Nd) (l r : Tre) (f : Up) (fs : List Up), vs = [.ref n.a] ∧ TAt C H (plug (.nd n l r) (f :: fs)) .non ∧ (addrs (plug (.nd n l r) (f :: fs))).Nodup ∧
  ∀ H', TAt C H' (.nd n l r) .non → TAt C H' (climb .nil (f :: fs)).1 .non → Frame (addrs (.nd n l r) ++ upAddrs (f :: fs)) H H' → Q (.int ((climb .nil (f :: fs)).2 : Int)) H'
/-- the word of cut_out's loop -/
def cutW (C : Addr) (H : Hp) (n : Nd) (l r : Tre) (gs : List Up) : Nat → L2.St → Hp → Prop := fun m σ H' => ∃ (t : Tre) (fs : List Up) (c : Nat) (v : Option V), m = fs.length ∧ σ = [some (.ref n.a), some (abv fs), some (.int c), v] ∧
  TAt C H' t (abv fs) ∧ UAt C H' (ref t) fs ∧ TAt C H' (.nd n l r) .non ∧ (addrs t ++ upAddrs fs).Perm (upAddrs gs) ∧ (climb .nil gs).1 = (climb t fs).1 ∧ (climb .nil gs).2 = (climb t fs).2 + c ∧ Frame (addrs (.nd n l r) ++ upAddrs gs) H H'
theorem ok_cut_out (T : Txt K mg) : FnOk P w K mg base CX0 3 T.a_cut_out T.d_cut_out ["node"] (sp_cut_out T.c_Node) := by
  have G_settle : FnOk P w K mg base CX0 2 _ _ _ _ := ok_settle T
  refine T.F_cut_out.ok sc_cut_out (fun vs H Q E h => ?_) (fun cdv A outer s H vs Q E hr h => ?_)
  · obtain ⟨n, l, r, f, fs, rfl, _⟩ := h
    rfl
  · obtain ⟨n, l, r, f, fs, rfl, ht, hN, k⟩ := h
    refine ⟨_, (pss_cons (ps_set (i := 1) sc_cut_out.nd rfl (.inl rfl) (pe_fld (pv 0) rfl))
  (pss_cons (ps_fld (pv 0) pe_non rfl)
  (C8.pss_cut (ps_if (pt_cmpR (op_eqI hr.units0) (pe_fld (pv 1) rfl) (pv 0) (nomark _))
  (pss_one (ps_fld (pv 1) pe_non rfl))
  (pss_one (ps_fld (pv 1) pe_non rfl)))
  (pss_cons (ps_set (i := 2) sc_cut_out.nd rfl (.inl rfl) pe_int)
  (pss_cons (ps_while PassesOwn.never (pt_cmpR op_notN (pv 1) pe_non (nomark _))
  (pss_cons (ps_aug (i := 2) sc_cut_out.nd rfl (.inl rfl) pe_int ip_add)
  (pss_cons (ps_set (i := 3) sc_cut_out.nd rfl (.inl rfl) (pe_fld (pv 1) rfl))
  (pss_cons (ps_expr (pe_call G_settle hr rfl T.g_settle T.F_settle.kp T.b_settle .nil pass0 (pa_cons (pv 1) pa_nil)))
  (pss_cons (ps_if (pt_cmpR op_eq (pe_fld (pv 1) rfl) (pv 3) (nomark _))
  (pss_one (ps_ret (pv 2)))
  pss_nil)
  (pss_one (ps_set (i := 1) sc_cut_out.nd rfl (.inl rfl) (pe_fld (pv 1) rfl))))))))
  (pss_one (ps_ret (pv 2)))))))), ?_⟩
    have hN1 := (plug_addrs (f :: fs) (.nd n l r)).nodup_iff.mp hN
    obtain ⟨h1, h2⟩ := (plug_at (f :: fs) (.nd n l r)).mp ht
    obtain ⟨hNn, hNu, hd⟩ := nodup_app hN1
    obtain ⟨⟨dn, en⟩, _, _⟩ := id h1
    -- above = node.above
    refine ⟨_, rfl, n.a, T.c_Node, dn, _, _, rfl, en, T.cl_Node, T.n_Node_above, nf_above, ?_⟩
    -- node.above = None
    refine ⟨_, rfl, n.a, T.c_Node, dn, _, rfl, en, T.cl_Node, T.n_Node_above, nf_len, ?_⟩
    have h3 := h1.above (x := .non) hNn en
    have f3 : Frame [n.a] H (upd H n.a (.ins T.c_Node dn (putF ("above" : Str) .non (nf n.i n.w n.h (abv (f :: fs)) (ref l) (ref r) n.k)))) := Frame.wr (List.mem_singleton.mpr rfl)
    have na : n.a ∈ addrs (.nd n l r) := by rw [addrs_nd]; exact List.mem_cons_self
    have h4 : UAt T.c_Node (upd H n.a (.ins T.c_Node dn (putF ("above" : Str) .non (nf n.i n.w n.h (abv (f :: fs)) (ref l) (ref r) n.k)))) (.ref n.a) (f :: fs) := UAt.keep (show UAt T.c_Node H (.ref n.a) (f :: fs) from h2) f3 fun b hb z => hd n.a na (by rw [← List.mem_singleton.mp z]; exact hb)
    generalize hH1 : upd H n.a (.ins T.c_Node dn (putF ("above" : Str) .non (nf n.i n.w n.h (abv (f :: fs)) (ref l) (ref r) n.k))) = H1 at h3 f3 h4 ⊢
    obtain ⟨⟨df, ef⟩, h5, h6⟩ := id h4
    obtain ⟨dn3, en3⟩ := id h3.1
    have fa : f.n.a ∈ upAddrs (f :: fs) := by rw [upAddrs_cons]; exact List.mem_cons_self
    have nfa : f.n.a ≠ n.a := fun z => hd n.a na (by rw [← z]; exact fa)
    -- the empty part is left
    refine ⟨fun σ H2 => σ = [some (.ref n.a), some (.ref f.n.a), none, none] ∧ TAt T.c_Node H2 (.nd n l r) .non ∧ UAt T.c_Node H2 .non (f :: fs) ∧ Frame (addrs (.nd n l r) ++ upAddrs (f :: fs)) H H2, ?_, ?_⟩
    · have wr : ∀ (fl : List (Str × V)), fl = nf f.n.i f.n.w f.n.h (abv fs) (if f.right = true then ref f.sib else .non) (if f.right = true then .non else ref f.sib) f.n.k →
          (TAt T.c_Node (upd H1 f.n.a (.ins T.c_Node df fl)) (.nd n l r) .non ∧ UAt T.c_Node (upd H1 f.n.a (.ins T.c_Node df fl)) .non (f :: fs) ∧ Frame (addrs (.nd n l r) ++ upAddrs (f :: fs)) H (upd H1 f.n.a (.ins T.c_Node df fl))) := fun fl efl => by
        have fr : Frame [f.n.a] H1 (upd H1 f.n.a (.ins T.c_Node df fl)) := Frame.wr (List.mem_singleton.mpr rfl)
        have hNu' := hNu
        rw [upAddrs_cons, List.nodup_cons] at hNu'
        refine ⟨h3.keep fr fun b hb z => hd b hb (by rw [List.mem_singleton.mp z]; exact fa), ⟨⟨df, by rw [upd_same, efl]⟩, h5.keep fr fun b hb z => ?_, h6.keep fr fun b hb z => ?_⟩, ?_⟩
        · rw [List.mem_singleton.mp z] at hb
          exact hNu'.1 (List.mem_append_left _ hb)
        · rw [List.mem_singleton.mp z] at hb
          exact hNu'.1 (List.mem_append_right _ hb)
        · exact (f3.mono fun b hb => by rw [List.mem_singleton.mp hb]; exact List.mem_append_left _ na).trans (Frame.wr (List.mem_append_right _ fa))
      by_cases c : f.right = true
      · -- it stood on the right
        rw [if_pos c, if_pos c] at ef wr
        refine ⟨_, rfl, f.n.a, T.c_Node, df, _, _, rfl, ef, T.cl_Node, T.n_Node_left, nf_left, _, rfl, n.a, T.c_Node, dn3, _, rfl, en3, T.pe_Node, ?_, _, rfl, t_no (fun z => ?_) ?_⟩
        · cases es : f.sib with
          | nil => exact .inl rfl
          | nd m p q =>
            rw [es] at h5
            obtain ⟨⟨dm, em⟩, _⟩ := h5
            exact .inr ⟨m.a, dm, _, rfl, em⟩
        · cases es : f.sib with
          | nil =>
            rw [es] at z
            cases z
          | nd m p q =>
            rw [es] at z
            injection z with z
            refine hd n.a na ?_
            rw [upAddrs_cons, es, addrs_nd, z]
            exact List.mem_cons_of_mem _ (List.mem_append_left _ List.mem_cons_self)
        · refine ⟨_, rfl, f.n.a, T.c_Node, df, _, rfl, ef, T.cl_Node, T.n_Node_right, nf_len, ?_⟩
          rw [put_right]
          exact ⟨rfl, wr _ rfl⟩
      · rw [if_neg c, if_neg c] at ef wr
        refine ⟨_, rfl, f.n.a, T.c_Node, df, _, _, rfl, ef, T.cl_Node, T.n_Node_left, nf_left, _, rfl, n.a, T.c_Node, dn3, _, rfl, en3, T.pe_Node, .inr ⟨n.a, dn3, _, rfl, en3⟩, _, rfl, t_yes rfl ?_⟩
        refine ⟨_, rfl, f.n.a, T.c_Node, df, _, rfl, ef, T.cl_Node, T.n_Node_left, nf_len, ?_⟩
        rw [put_left]
        exact ⟨rfl, wr _ rfl⟩
    rintro σ H2 ⟨rfl, hn2, hu2, fr2⟩
    refine ⟨cutW T.c_Node H n l r (f :: fs), ⟨(f :: fs).length, .nil, f :: fs, 0, none, rfl, rfl, trivial, hu2, hn2, List.Perm.refl _, rfl, rfl, fr2⟩, ?_⟩
    rintro m σ H3 ⟨t, gs, c, v, rfl, rfl, t3, u3, n3, p3, e31, e32, fr3⟩
    cases gs with
    | nil =>
      refine ⟨_, rfl, rfl, _, rfl, iteF ⟨_, rfl, ?_⟩⟩
      have e0 : (climb t []).2 = 0 := rfl
      have z := k H3 n3 (by rw [e31]; exact t3) fr3
      rw [e32, e0, Nat.zero_add] at z
      exact z
    | cons g gs =>
      refine ⟨_, rfl, rfl, _, rfl, iteT ⟨fun σ' H' => ∃ m', m' < (g :: gs).length ∧ cutW T.c_Node H n l r (f :: fs) m' σ' H', fun _ _ h => h, ?_⟩⟩
      obtain ⟨⟨dg, eg⟩, hs, hu⟩ := id u3
      have ht1 := (put1_at g gs t).mpr ⟨t3, u3.1, hs⟩
      -- looked_at += 1; run_ahead = above.run
      refine ⟨_, rfl, _, _, rfl, rfl, ?_⟩
      refine ⟨_, rfl, g.n.a, T.c_Node, dg, _, _, rfl, eg, T.cl_Node, T.n_Node_run, nf_run, ?_⟩
      -- settle(above)
      have pN := p3.symm.nodup_iff.mp hNu
      obtain ⟨qN1, qN2, qN3⟩ := nodup_app pN
      rw [upAddrs_cons, List.nodup_cons] at qN2
      have gt : g.n.a ∉ addrs t := fun z => qN3 _ z (by rw [upAddrs_cons]; exact List.mem_cons_self)
      have gsib : g.n.a ∉ addrs g.sib := fun z => qN2.1 (List.mem_append_left _ z)
      have ggs : g.n.a ∉ upAddrs gs := fun z => qN2.1 (List.mem_append_right _ z)
      have gin : g.n.a ∈ upAddrs (f :: fs) := p3.mem_iff.mp (List.mem_append_right _ (by rw [upAddrs_cons]; exact List.mem_cons_self))
      have key : ∃ (l' r' : Tre), put1 g t = .nd g.n l' r' ∧ mk1 g t = mk g.n l' r' ∧ g.n.a ∉ addrs l' ∧ g.n.a ∉ addrs r' := by
        by_cases c : g.right = true
        · exact ⟨g.sib, t, (by unfold put1; rw [if_pos c]), (by unfold mk1; rw [if_pos c]), gsib, gt⟩
        · exact ⟨t, g.sib, (by unfold put1; rw [if_neg c]), (by unfold mk1; rw [if_neg c]), gt, gsib⟩
      obtain ⟨l', r', e1, e2, n1, n2⟩ := key
      refine ⟨_, rfl, g.n, l', r', abv gs, rfl, (by rw [← e1]; exact ht1), n1, n2, fun H4 t4 f4 => ?_⟩
      rw [← e2] at t4
      have u4 : UAt T.c_Node H4 (ref (mk1 g t)) gs := by
        rw [ref_mk1]
        exact hu.keep f4 fun b hb z => ggs (by rw [← List.mem_singleton.mp z]; exact hb)
      have n4 : TAt T.c_Node H4 (.nd n l r) .non := n3.keep f4 fun b hb z => hd b hb (by rw [List.mem_singleton.mp z]; exact gin)
      have fr4 : Frame (addrs (.nd n l r) ++ upAddrs (f :: fs)) H H4 := fr3.trans (f4.mono fun b hb => by rw [List.mem_singleton.mp hb]; exact List.mem_append_right _ gin)
      -- the run
      cases em : mk1 g t with
      | nil =>
        have := ref_mk1 g t
        rw [em] at this
        cases this
      | nd b bl br =>
      have eb : b.a = g.n.a := by
        have := ref_mk1 g t
        rw [em] at this
        injection this
      rw [em] at t4 u4
      obtain ⟨⟨db, ebb⟩, _, _⟩ := id t4
      rw [eb] at ebb
      have erk : (mk1 g t).rk = b.k := by rw [em]; rfl
      refine ⟨_, rfl, g.n.a, T.c_Node, db, _, _, rfl, ebb, T.cl_Node, T.n_Node_run, nf_run, _, rfl, rfl, _, rfl, t_2 (fun c5 => ?_) (fun c5 => ?_)⟩
      · -- it stays: the rest stands
        have c6 : (mk1 g t).rk = g.n.k := by
          rw [erk]
          have := V.int.inj c5
          omega
        have ec : climb t (g :: gs) = (plug (mk1 g t) gs, 1) := by
          show (if (mk1 g t).rk = g.n.k then _ else _) = _
          rw [if_pos c6]
        refine ⟨_, rfl, ?_⟩
        rw [ec] at e31 e32
        have z := k H4 n4 (by rw [e31, em]; exact (plug_at gs _).mpr ⟨t4, u4⟩) fr4
        rw [e32] at z
        have e7 : (((plug (mk1 g t) gs, 1) : Tre × Nat).2 + c : Nat) = c + 1 := Nat.add_comm 1 c
        rw [e7] at z
        exact z
      · have c6 : ¬ (mk1 g t).rk = g.n.k := by
          rw [erk]
          intro z
          exact c5 (by rw [z])
        have ec : climb t (g :: gs) = ((climb (mk1 g t) gs).1, (climb (mk1 g t) gs).2 + 1) := by
          show (if (mk1 g t).rk = g.n.k then _ else _) = _
          rw [if_neg c6]
        -- above = above.above
        refine ⟨_, rfl, g.n.a, T.c_Node, db, _, _, rfl, ebb, T.cl_Node, T.n_Node_above, nf_above, ?_⟩
        rw [ec] at e31 e32
        refine ⟨gs.length, Nat.lt_succ_self _, mk1 g t, gs, c + 1, _, rfl, rfl, by rw [em]; exact t4, by rw [em]; exact u4, n4, ?_, e31, ?_, fr4⟩
        · refine List.Perm.trans ?_ p3
          rw [upAddrs_cons]
          refine ((mk1_addrs g t).append_right _).trans ?_
          rw [List.append_assoc, List.cons_append]
        · rw [e32]
          show (climb (mk1 g t) gs).2 + 1 + c = _
          omega
end
/-! ### the field's state, plainly -/
/-- the trees by heap; by thing its node, or None; the work -/
structure Fs where
  ts : List Tre
  ns : List V
  wk : Int
/-- what lies where: of each thing its address, number, weight, heap -/
structure Good (S : Fs) : Prop where
  len : S.ns.length ≤ 1000
  ho : ∀ t ∈ S.ts, HO t
  lo : ∀ t ∈ S.ts, LO t
  home : ∀ (j : Nat) (t : Tre), S.ts[j]? = some t → ∀ d ∈ dats t, d.h = j ∧ S.ns[d.i]? = some (.ref d.a)
  back : ∀ (i : Nat) (a : Addr), S.ns[i]? = some (.ref a) → ∃ (j : Nat) (t : Tre) (d : Dat), S.ts[j]? = some t ∧ d ∈ dats t ∧ d.i = i ∧ d.a = a
  ent : ∀ v ∈ S.ns, v = .non ∨ ∃ a, v = .ref a
  nd : (S.ts.flatMap Tre.addrs).Nodup
theorem short_of : ∀ (n : Nat) (l : List Nat), l.Nodup → (∀ x ∈ l, x < n) → l.length ≤ n
  | 0, [], _, _ => Nat.le_refl _
  | 0, x :: l, _, h => absurd (h x List.mem_cons_self) (Nat.not_lt_zero _)
  | n + 1, l, hnd, h => by
    by_cases c : n ∈ l
    · have h1 : (l.erase n).length = l.length - 1 := List.length_erase_of_mem c
      have h2 := short_of n (l.erase n) (hnd.erase n) fun x hx => by
        have hx2 := List.mem_of_mem_erase hx
        have hx3 : x ≠ n := fun z => by
          subst z
          exact (List.Nodup.not_mem_erase hnd) hx
        have := h x hx2
        omega
      have : 0 < l.length := List.length_pos_of_mem c
      omega
    · have := short_of n l hnd fun x hx => by
        have h2 := h x hx
        have h3 : x ≠ n := fun z => c (z ▸ hx)
        omega
      omega
theorem at_split {α : Type} : ∀ {l : List α} {j : Nat} {x : α}, l[j]? = some x → ∃ A B, l = A ++ x :: B ∧ A.length = j
  | [], j, x, h => by simp at h
  | y :: l, 0, x, h => ⟨[], l, by have e : y = x := Option.some.inj h
                                  rw [e]; rfl, rfl⟩
  | y :: l, j + 1, x, h => by
    obtain ⟨A, B, e, hl⟩ := at_split (l := l) (j := j) (x := x) h
    exact ⟨y :: A, B, by rw [e]; rfl, by rw [List.length_cons, hl]⟩
theorem set_split {α : Type} (A B : List α) (x y : α) : (A ++ x :: B).set A.length y = A ++ y :: B := by
  rw [List.set_append_right _ _ (Nat.le_refl _), Nat.sub_self]
  rfl
theorem get_other {α : Type} {A B : List α} {x y z : α} {j : Nat} (h : (A ++ y :: B)[j]? = some z) : (j = A.length ∧ z = y) ∨ (j ≠ A.length ∧ (A ++ x :: B)[j]? = some z) := by
  by_cases c : j = A.length
  · subst c
    rw [List.getElem?_append_right (Nat.le_refl _), Nat.sub_self] at h
    exact .inl ⟨rfl, (Option.some.inj h).symm⟩
  · refine .inr ⟨c, ?_⟩
    by_cases c2 : j < A.length
    · rw [List.getElem?_append_left c2] at h ⊢
      exact h
    · obtain ⟨m, hm⟩ : ∃ m, j - A.length = m + 1 := ⟨j - A.length - 1, by omega⟩
      rw [List.getElem?_append_right (by omega), hm] at h ⊢
      exact h
theorem flat_split {A B : List Tre} {t : Tre} : ((A ++ t :: B).flatMap Tre.addrs).Perm (addrs t ++ (A.flatMap Tre.addrs ++ B.flatMap Tre.addrs)) := by
  rw [List.flatMap_append, List.flatMap_cons]
  refine List.Perm.trans ?_ (List.Perm.append_right _ (List.Perm.refl _))
  rw [← List.append_assoc, ← List.append_assoc]
  exact List.Perm.append_right _ List.perm_append_comm
section
variable {S : Fs} {t : Tre} {j : Nat}
theorem inj_a : ∀ (l : List Dat), (l.map Dat.a).Nodup → ∀ x ∈ l, ∀ y ∈ l, x.a = y.a → x = y
  | [], _, x, hx, _, _, _ => by cases hx
  | z :: l, hn, x, hx, y, hy, exy => by
    rw [List.map_cons, List.nodup_cons] at hn
    rcases List.mem_cons.mp hx with hx | hx
    · rcases List.mem_cons.mp hy with hy | hy
      · rw [hx, hy]
      · exact absurd (by rw [← hx, exy]; exact List.mem_map_of_mem hy) hn.1
    · rcases List.mem_cons.mp hy with hy | hy
      · exact absurd (by rw [← hy, ← exy]; exact List.mem_map_of_mem hx) hn.1
      · exact inj_a l hn.2 x hx y hy exy
/-- one address, one thing -/
theorem Good.oneA (G : Good S) {i j : Nat} {t u : Tre} {d e : Dat} (h1 : S.ts[i]? = some t) (h2 : S.ts[j]? = some u) (hd : d ∈ dats t) (he : e ∈ dats u) (ea : d.a = e.a) : i = j ∧ t = u ∧ d = e := by
  obtain ⟨A, B, eS, hA⟩ := at_split h1
  have hnd := G.nd
  rw [eS] at hnd h2
  have nd2 := flat_split.nodup_iff.mp hnd
  obtain ⟨n1, n2, n3⟩ := List.nodup_append.mp nd2
  have da : d.a ∈ addrs t := List.mem_map_of_mem hd
  rcases get_other (x := t) h2 with ⟨e1, e2⟩ | ⟨e1, e2⟩
  · subst e2
    exact ⟨by omega, rfl, inj_a _ n1 d hd e he ea⟩
  · exfalso
    have hu : e.a ∈ addrs u := List.mem_map_of_mem he
    have hu2 : e.a ∈ A.flatMap Tre.addrs ++ B.flatMap Tre.addrs := by
      by_cases c : j < A.length
      · rw [List.getElem?_append_left c] at e2
        exact List.mem_append_left _ (List.mem_flatMap.mpr ⟨u, List.mem_of_getElem? e2, hu⟩)
      · obtain ⟨m, hm⟩ : ∃ m, j - A.length = m + 1 := ⟨j - A.length - 1, by omega⟩
        rw [List.getElem?_append_right (by omega), hm] at e2
        have e3 : B[m]? = some u := e2
        exact List.mem_append_right _ (List.mem_flatMap.mpr ⟨u, List.mem_of_getElem? e3, hu⟩)
    exact n3 d.a da e.a hu2 ea
/-- one number, one thing -/
theorem Good.one (G : Good S) {i j : Nat} {t u : Tre} {d e : Dat} (h1 : S.ts[i]? = some t) (h2 : S.ts[j]? = some u) (hd : d ∈ dats t) (he : e ∈ dats u) (hi : d.i = e.i) : i = j ∧ t = u ∧ d = e := by
  have a1 := G.home i t h1 d hd
  have a2 := G.home j u h2 e he
  refine G.oneA h1 h2 hd he ?_
  have q := a1.2
  rw [hi, a2.2] at q
  injection q with q
  injection q with q
  exact q.symm
/-- where the row tells a thing of this tree -/
theorem Good.inT (G : Good S) {i : Nat} {a : Addr} (h : S.ns[i]? = some (.ref a)) (hs : S.ts[j]? = some t) (ha : a ∈ addrs t) : ∃ d ∈ dats t, d.i = i ∧ d.a = a := by
  obtain ⟨j', u, d, hu, hd, e1, e2⟩ := G.back i a h
  obtain ⟨e, he, ea⟩ := List.mem_map.mp ha
  obtain ⟨_, q2, q3⟩ := G.oneA hu hs hd he (e2.trans ea.symm)
  exact ⟨d, by rw [q3]; exact he, e1, e2⟩
theorem flat_set {ts : List Tre} {j : Nat} {s t : Tre} (h : ts[j]? = some s) : ((ts.set j t).flatMap Tre.addrs ++ addrs s).Perm (ts.flatMap Tre.addrs ++ addrs t) := by
  obtain ⟨A, B, eS, hA⟩ := at_split h
  subst hA
  rw [eS, set_split]
  refine List.perm_iff_count.mpr fun x => ?_
  simp only [List.flatMap_append, List.flatMap_cons, List.count_append]
  omega
theorem Good.ndI (G : Good S) (h : S.ts[j]? = some t) : ((dats t).map Dat.i).Nodup := by
  obtain ⟨A, B, eS, _⟩ := at_split h
  have nd := G.nd
  rw [eS] at nd
  have n1 : ((dats t).map Dat.a).Nodup := (List.nodup_append.mp (flat_split.nodup_iff.mp nd)).1
  rw [List.Nodup, List.pairwise_map] at n1 ⊢
  refine List.Pairwise.imp_of_mem ?_ n1
  intro x y hx hy hxy e
  exact hxy (by rw [(G.one h h hx hy e).2.2])
theorem Good.size (G : Good S) (h : S.ts[j]? = some t) : t.size ≤ S.ns.length := by
  have h1 := short_of S.ns.length _ (G.ndI h) fun x hx => by
    obtain ⟨d, hd, rfl⟩ := List.mem_map.mp hx
    exact (List.getElem?_eq_some_iff.mp (G.home j t h d hd).2).1
  rw [List.length_map, size_dats] at h1
  exact h1
theorem spine_le (h : LO t) (hs : t.size ≤ 1000) : t.spine ≤ 9 := by
  rw [spine_rk h]
  have h1 := rk_size h
  by_cases c : t.rk ≤ 9
  · exact c
  · have h2 : 2 ^ 10 ≤ 2 ^ t.rk := Nat.pow_le_pow_right (by decide) (by omega)
    have h3 : 2 ^ 10 = 1024 := by decide
    omega
end
/-! ### the deeds -/
def leaf (a : Addr) (i : Nat) (w : Int) (j : Nat) : Tre := .nd ⟨a, i, w, j, 1⟩ .nil .nil
def Fs.put (S : Fs) (j : Nat) (a : Addr) (w : Int) : Fs :=
  ⟨S.ts.set j (join (S.ts.getD j .nil) (leaf a S.ns.length w j)).1, S.ns ++ [.ref a], (join (S.ts.getD j .nil) (leaf a S.ns.length w j)).2⟩
def Fs.take (S : Fs) (j : Nat) (n : Nd) (l r : Tre) : Fs := ⟨S.ts.set j (join l r).1, S.ns.set n.i .non, (join l r).2⟩
namespace Tre
/-- all have the home h -/
def homed (h : Nat) : Tre → Tre
  | nil => nil
  | nd n l r => nd { n with h := h } (homed h l) (homed h r)
theorem homed_dats (h : Nat) : ∀ t : Tre, dats (homed h t) = (dats t).map fun d => { d with h := h }
  | nil => rfl
  | nd n l r => by
    show dats (nd { n with h := h } (homed h l) (homed h r)) = _
    rw [dats_nd, dats_nd, homed_dats h l, homed_dats h r, List.map_cons, List.map_append]
    rfl
theorem homed_addrs (h : Nat) (t : Tre) : addrs (homed h t) = addrs t := by
  unfold addrs
  rw [homed_dats, List.map_map]
  rfl
theorem homed_rk (h : Nat) : ∀ t : Tre, (homed h t).rk = t.rk
  | nil => rfl
  | nd _ _ _ => rfl
theorem homed_LO (h : Nat) : ∀ {t : Tre}, LO t → LO (homed h t)
  | nil, _ => trivial
  | nd n l r, g => ⟨by rw [homed_rk]; exact g.1, by rw [homed_rk, homed_rk]; exact g.2.1, homed_LO h g.2.2.1, homed_LO h g.2.2.2⟩
theorem homed_HO (h : Nat) : ∀ {t : Tre}, HO t → HO (homed h t)
  | nil, _ => trivial
  | nd n l r, g => by
    have lft : ∀ (u : Tre), (∀ d ∈ dats u, dlt n.dat d) → ∀ d ∈ dats (homed h u), dlt ({ n with h := h } : Nd).dat d := fun u hu d hd => by
      rw [homed_dats] at hd
      obtain ⟨e, he, rfl⟩ := List.mem_map.mp hd
      exact hu e he
    exact ⟨lft l g.1, lft r g.2.1, homed_HO h g.2.2.1, homed_HO h g.2.2.2⟩
end Tre
def Fs.pour (S : Fs) (j o : Nat) : Fs :=
  ⟨(S.ts.set o .nil).set j (join (S.ts.getD j .nil) (homed j (S.ts.getD o .nil))).1, S.ns, (join (S.ts.getD j .nil) (homed j (S.ts.getD o .nil))).2⟩
/-- the thing at the place below fs sinks to the weight w -/
def sunk (n : Nd) (l r : Tre) (w : Int) : List Up → Tre × Nat
  | [] => (.nd { n with w := w } l r, 0)
  | f :: fs => if lt { n with w := w } f.n then
      ((join (climb .nil (f :: fs)).1 (.nd { n with w := w } l r)).1, (climb .nil (f :: fs)).2 + (join (climb .nil (f :: fs)).1 (.nd { n with w := w } l r)).2)
    else (plug (.nd { n with w := w } l r) (f :: fs), 0)
def Fs.sink (S : Fs) (j : Nat) (n : Nd) (l r : Tre) (w : Int) (fs : List Up) : Fs := ⟨S.ts.set j (sunk n l r w fs).1, S.ns, (sunk n l r w fs).2⟩
/-- one tree's things told anew, the numbers' row as it may be: what stays good -/
theorem Good.repl {S : Fs} (G : Good S) {j : Nat} {s t : Tre} {ns : List V} {wk : Int} (hj : S.ts[j]? = some s) (hlen : ns.length ≤ 1000) (ht : HO t) (hl : LO t)
    (hh : ∀ d ∈ dats t, d.h = j ∧ ns[d.i]? = some (.ref d.a)) (hnd : (addrs t).Nodup) (hout : ∀ b ∈ addrs t, b ∈ addrs s ∨ b ∉ S.ts.flatMap Tre.addrs)
    (old : ∀ (i : Nat) (a : Addr), S.ns[i]? = some (.ref a) → a ∉ addrs s → ns[i]? = some (.ref a))
    (new : ∀ (i : Nat) (a : Addr), ns[i]? = some (.ref a) → (S.ns[i]? = some (.ref a) ∧ a ∉ addrs s) ∨ ∃ d ∈ dats t, d.i = i ∧ d.a = a) (hent : ∀ v ∈ ns, v = .non ∨ ∃ a, v = .ref a) :
    Good ⟨S.ts.set j t, ns, wk⟩ := by
  obtain ⟨A, B, eS, hA⟩ := at_split hj
  subst hA
  have e1 : S.ts.set A.length t = A ++ t :: B := by rw [eS]; exact set_split A B s t
  have nd := G.nd
  rw [eS] at nd
  have nd2 := flat_split.nodup_iff.mp nd
  obtain ⟨n1, n2, n3⟩ := nodup_app nd2
  have mem : ∀ u ∈ A ++ t :: B, u = t ∨ u ∈ S.ts := fun u hu => by
    rw [eS]
    rcases List.mem_append.mp hu with z | z
    · exact .inr (List.mem_append_left _ z)
    · rcases List.mem_cons.mp z with z | z
      · exact .inl z
      · exact .inr (List.mem_append_right _ (List.mem_cons_of_mem _ z))
  show Good ⟨S.ts.set A.length t, ns, wk⟩
  rw [e1]
  refine ⟨hlen, fun u hu => ?_, fun u hu => ?_, fun i u hu d hd => ?_, fun i a hi => ?_, hent, ?_⟩
  · rcases mem u hu with z | z
    · rw [z]
      exact ht
    · exact G.ho u z
  · rcases mem u hu with z | z
    · rw [z]
      exact hl
    · exact G.lo u z
  · rcases get_other (x := s) hu with ⟨c1, c2⟩ | ⟨c1, c2⟩
    · subst c2
      rw [c1]
      exact hh d hd
    · rw [← eS] at c2
      have h1 := G.home i u c2 d hd
      refine ⟨h1.1, old _ _ h1.2 fun z => ?_⟩
      obtain ⟨e, he, ea⟩ := List.mem_map.mp z
      have h2 := G.home A.length s (by rw [eS, List.getElem?_append_right (Nat.le_refl _), Nat.sub_self]; rfl) e he
      have hu2 : d.a ∈ addrs u := List.mem_map_of_mem hd
      rw [eS] at c2
      refine n3 d.a z ?_
      by_cases c : i < A.length
      · rw [List.getElem?_append_left c] at c2
        exact List.mem_append_left _ (List.mem_flatMap.mpr ⟨u, List.mem_of_getElem? c2, hu2⟩)
      · obtain ⟨m, hm⟩ : ∃ m, i - A.length = m + 1 := ⟨i - A.length - 1, by omega⟩
        rw [List.getElem?_append_right (by omega), hm] at c2
        have e3 : B[m]? = some u := c2
        exact List.mem_append_right _ (List.mem_flatMap.mpr ⟨u, List.mem_of_getElem? e3, hu2⟩)
  · rcases new i a hi with ⟨h1, h2⟩ | ⟨d, hd, e1, e2⟩
    · obtain ⟨i', u, d, hu, hd, e1, e2⟩ := G.back i a h1
      rw [eS] at hu
      rcases get_other (x := t) hu with ⟨c1, c2⟩ | ⟨c1, c2⟩
      · subst c2
        exact absurd (by rw [← e2]; exact List.mem_map_of_mem hd) h2
      · exact ⟨i', u, d, c2, hd, e1, e2⟩
    · exact ⟨A.length, t, d, by rw [List.getElem?_append_right (Nat.le_refl _), Nat.sub_self]; rfl, hd, e1, e2⟩
  · refine flat_split.symm.nodup_iff.mp (List.nodup_append.mpr ⟨hnd, n2, fun x hx y hy exy => ?_⟩)
    subst exy
    rcases hout x hx with z | z
    · exact n3 x z hy
    · rw [eS] at z
      exact z (flat_split.mem_iff.mpr (List.mem_append_right _ hy))
/-! ### the deeds keep the state good -/
theorem get_mem {α : Type} {l : List α} {j : Nat} {x : α} (h : l[j]? = some x) : x ∈ l := List.mem_of_getElem? h
theorem getD_of {l : List Tre} {j : Nat} {s : Tre} (h : l[j]? = some s) : l.getD j .nil = s := by
  simp [List.getD, h]
theorem get_len {α : Type} {l : List α} {j : Nat} {x : α} (h : l[j]? = some x) : j < l.length := (List.getElem?_eq_some_iff.mp h).1
section
variable {S : Fs} {s t : Tre} {j : Nat}
theorem Good.start : Good ⟨[], [], 0⟩ := ⟨Nat.zero_le _, (fun _ h => by cases h), (fun _ h => by cases h), (fun _ _ h => by simp at h), (fun _ _ h => by simp at h), (fun _ h => by cases h), List.Pairwise.nil⟩
theorem Good.heap (G : Good S) : Good ⟨S.ts ++ [Tre.nil], S.ns, S.wk⟩ := by
  have mem : ∀ u ∈ S.ts ++ [Tre.nil], u ∈ S.ts ∨ u = Tre.nil := fun u hu => (List.mem_append.mp hu).imp id List.mem_singleton.mp
  refine ⟨G.len, fun u hu => ?_, fun u hu => ?_, fun i u hu d hd => ?_, fun i a h => ?_, G.ent, ?_⟩
  · rcases mem u hu with z | z
    · exact G.ho u z
    · rw [z]
      trivial
  · rcases mem u hu with z | z
    · exact G.lo u z
    · rw [z]
      trivial
  · have hu' : (S.ts ++ [Tre.nil])[i]? = some u := hu
    by_cases c : i < S.ts.length
    · rw [List.getElem?_append_left c] at hu'
      exact G.home i u hu' d hd
    · rw [List.getElem?_append_right (by omega)] at hu'
      have e : u = .nil := List.mem_singleton.mp (get_mem hu')
      rw [e] at hd
      cases hd
  · obtain ⟨j', u, d, hu, hd, e1, e2⟩ := G.back i a h
    exact ⟨j', u, d, by show (S.ts ++ [Tre.nil])[j']? = some u; rw [List.getElem?_append_left (get_len hu)]; exact hu, hd, e1, e2⟩
  · show ((S.ts ++ [Tre.nil]).flatMap Tre.addrs).Nodup
    rw [List.flatMap_append]
    show (S.ts.flatMap Tre.addrs ++ []).Nodup
    rw [List.append_nil]
    exact G.nd
theorem leaf_dats (a : Addr) (i : Nat) (w : Int) (j : Nat) : dats (leaf a i w j) = [⟨a, i, w, j⟩] := rfl
theorem leaf_LO (a : Addr) (i : Nat) (w : Int) (j : Nat) : LO (leaf a i w j) := ⟨rfl, Nat.le_refl _, trivial, trivial⟩
theorem leaf_HO (a : Addr) (i : Nat) (w : Int) (j : Nat) : HO (leaf a i w j) := ⟨(fun _ h => by cases h), (fun _ h => by cases h), trivial, trivial⟩
theorem Good.put (G : Good S) (hs : S.ts[j]? = some s) (hl : S.ns.length < 1000) {a : Addr} (ha : a ∉ S.ts.flatMap Tre.addrs) (w : Int) : Good (S.put j a w) := by
  have es := getD_of hs
  unfold Fs.put
  rw [es]
  have pm := joinD s (leaf a S.ns.length w j)
  have mem : ∀ d, d ∈ dats (join s (leaf a S.ns.length w j)).1 ↔ d ∈ dats s ∨ d = ⟨a, S.ns.length, w, j⟩ := fun d => by
    rw [pm.mem_iff, List.mem_append, leaf_dats, List.mem_singleton]
  have hi : ∀ d ∈ dats s, d.i < S.ns.length := fun d hd => get_len (G.home j s hs d hd).2
  have sub : ∀ b ∈ addrs s, b ∈ S.ts.flatMap Tre.addrs := fun b hb => List.mem_flatMap.mpr ⟨s, get_mem hs, hb⟩
  refine G.repl hs (by rw [List.length_append, List.length_singleton]; omega) (joinHO (G.ho s (get_mem hs)) (leaf_HO _ _ _ _) ?_) (joinLO (G.lo s (get_mem hs)) (leaf_LO _ _ _ _)) (fun d hd => ?_) ?_ (fun b hb => ?_) (fun i b h _ => ?_) (fun i b h => ?_) (fun v hv => ?_)
  · rw [List.map_append, leaf_dats]
    refine List.nodup_append.mpr ⟨G.ndI hs, by simp, fun x hx y hy e => ?_⟩
    obtain ⟨d, hd, rfl⟩ := List.mem_map.mp hx
    have e2 : y = S.ns.length := List.mem_singleton.mp hy
    have := hi d hd
    omega
  · rcases (mem d).mp hd with z | z
    · have h1 := G.home j s hs d z
      exact ⟨h1.1, by rw [List.getElem?_append_left (hi d z)]; exact h1.2⟩
    · rw [z]
      exact ⟨rfl, by rw [List.getElem?_append_right (Nat.le_refl _), Nat.sub_self]; rfl⟩
  · refine ((pm.map Dat.a).nodup_iff).mpr ?_
    rw [List.map_append, leaf_dats]
    refine List.nodup_append.mpr ⟨?_, by simp, fun x hx y hy e => ?_⟩
    · obtain ⟨A, B, eS, _⟩ := at_split hs
      have hnd := G.nd
      rw [eS] at hnd
      exact (List.nodup_append.mp (flat_split.nodup_iff.mp hnd)).1
    · have e2 : y = a := List.mem_singleton.mp hy
      rw [e, e2] at hx
      exact ha (sub a hx)
  · obtain ⟨d, hd, rfl⟩ := List.mem_map.mp hb
    rcases (mem d).mp hd with z | z
    · exact .inl (List.mem_map_of_mem z)
    · rw [z]
      exact .inr ha
  · rw [List.getElem?_append_left (get_len h)]
    exact h
  · by_cases c : i < S.ns.length
    · rw [List.getElem?_append_left c] at h
      by_cases c2 : b ∈ addrs s
      · obtain ⟨d, hd, e1, e2⟩ := G.inT h hs c2
        exact .inr ⟨d, (mem d).mpr (.inl hd), e1, e2⟩
      · exact .inl ⟨h, c2⟩
    · have hlt := get_len h
      rw [List.length_append, List.length_singleton] at hlt
      have ei : i = S.ns.length := by omega
      rw [ei, List.getElem?_append_right (Nat.le_refl _), Nat.sub_self] at h
      have e3 : V.ref a = V.ref b := Option.some.inj h
      injection e3 with e3
      exact .inr ⟨⟨a, S.ns.length, w, j⟩, (mem _).mpr (.inr rfl), ei.symm, e3⟩
  · rcases List.mem_append.mp hv with z | z
    · exact G.ent v z
    · exact .inr ⟨a, List.mem_singleton.mp z⟩
theorem Good.top (G : Good S) {n : Nd} {l r : Tre} (hs : S.ts[j]? = some (.nd n l r)) : n.h = j ∧ S.ns[n.i]? = some (.ref n.a) := G.home j _ hs n.dat (by rw [dats_nd]; exact List.mem_cons_self)
theorem Good.take (G : Good S) {n : Nd} {l r : Tre} (hs : S.ts[j]? = some (.nd n l r)) : Good (S.take j n l r) := by
  unfold Fs.take
  have pm := joinD l r
  have ho := G.ho _ (get_mem hs)
  have lo := G.lo _ (get_mem hs)
  have hI := G.ndI hs
  rw [dats_nd, List.map_cons, List.nodup_cons] at hI
  have up : ∀ d, d ∈ dats (join l r).1 → d ∈ dats (.nd n l r) ∧ d.i ≠ n.i := fun d hd => by
    have h1 := pm.mem_iff.mp hd
    refine ⟨by rw [dats_nd]; exact List.mem_cons_of_mem _ h1, fun e => hI.1 ?_⟩
    rw [show n.dat.i = n.i from rfl, ← e]
    exact List.mem_map_of_mem h1
  have hA : (Tre.addrs (.nd n l r)).Nodup := by
    obtain ⟨A, B, eS, _⟩ := at_split hs
    have hnd := G.nd
    rw [eS] at hnd
    exact (List.nodup_append.mp (flat_split.nodup_iff.mp hnd)).1
  rw [addrs_nd, List.nodup_cons] at hA
  refine G.repl hs (by rw [List.length_set]; exact G.len) (joinHO ho.2.2.1 ho.2.2.2 hI.2) (joinLO lo.2.2.1 lo.2.2.2) (fun d hd => ?_) ((join_addrs l r).nodup_iff.mpr hA.2) (fun b hb => .inl ?_) (fun i b h hb => ?_) (fun i b h => ?_) (fun v hv => ?_)
  · have h1 := G.home j _ hs d (up d hd).1
    refine ⟨h1.1, ?_⟩
    rw [List.getElem?_set_ne (fun e => (up d hd).2 e.symm)]
    exact h1.2
  · rw [addrs_nd]
    exact List.mem_cons_of_mem _ ((join_addrs l r).mem_iff.mp hb)
  · have ne : n.i ≠ i := fun e => by
      rw [← e, (G.top hs).2] at h
      injection h with h
      injection h with h
      exact hb (by rw [addrs_nd, h]; exact List.mem_cons_self)
    rw [List.getElem?_set_ne ne]
    exact h
  · by_cases c : n.i = i
    · subst c
      rw [List.getElem?_set_self (get_len (G.top hs).2)] at h
      injection h with h
      cases h
    · rw [List.getElem?_set_ne c] at h
      by_cases c2 : b ∈ addrs (.nd n l r)
      · obtain ⟨d, hd, e1, e2⟩ := G.inT h hs c2
        rw [dats_nd] at hd
        rcases List.mem_cons.mp hd with z | z
        · exact absurd (by rw [← e1, z]; rfl) c
        · exact .inr ⟨d, pm.mem_iff.mpr z, e1, e2⟩
      · exact .inl ⟨h, c2⟩
  · rcases List.mem_or_eq_of_mem_set hv with z | z
    · exact G.ent v z
    · exact .inl z
theorem Good.pour (G : Good S) {o : Nat} {u : Tre} (hs : S.ts[j]? = some s) (ht : S.ts[o]? = some u) (hne : j ≠ o) : Good (S.pour j o) := by
  unfold Fs.pour
  rw [getD_of hs, getD_of ht]
  have pm := joinD s (homed j u)
  have mem : ∀ d, d ∈ dats (join s (homed j u)).1 ↔ d ∈ dats s ∨ ∃ e ∈ dats u, d = { e with h := (j : Int) } := fun d => by
    rw [pm.mem_iff, List.mem_append, homed_dats, List.mem_map]
    exact ⟨fun h => h.imp id fun ⟨e, he, q⟩ => ⟨e, he, q.symm⟩, fun h => h.imp id fun ⟨e, he, q⟩ => ⟨e, he, q.symm⟩⟩
  have hs1 : (S.ts.set o .nil)[j]? = some s := by
    rw [List.getElem?_set_ne (Ne.symm hne)]
    exact hs
  have idx : ∀ (i : Nat) (v : Tre), ((S.ts.set o .nil).set j (join s (homed j u)).1)[i]? = some v → (i = j ∧ v = (join s (homed j u)).1) ∨ (i = o ∧ v = .nil) ∨ (i ≠ j ∧ i ≠ o ∧ S.ts[i]? = some v) := fun i v h => by
    by_cases c : i = j
    · subst c
      rw [List.getElem?_set_self (get_len hs1)] at h
      exact .inl ⟨rfl, (Option.some.inj h).symm⟩
    · rw [List.getElem?_set_ne (Ne.symm c)] at h
      by_cases c2 : i = o
      · subst c2
        rw [List.getElem?_set_self (get_len ht)] at h
        exact .inr (.inl ⟨rfl, (Option.some.inj h).symm⟩)
      · rw [List.getElem?_set_ne (Ne.symm c2)] at h
        exact .inr (.inr ⟨c, c2, h⟩)
  have mem2 : ∀ v, v ∈ (S.ts.set o .nil).set j (join s (homed j u)).1 → v = (join s (homed j u)).1 ∨ v = .nil ∨ v ∈ S.ts := fun v hv => by
    obtain ⟨i, hi⟩ := List.mem_iff_getElem?.mp hv
    rcases idx i v hi with z | z | z
    · exact .inl z.2
    · exact .inr (.inl z.2)
    · exact .inr (.inr (get_mem z.2.2))
  have nI : ((dats s ++ dats (homed j u)).map Dat.i).Nodup := by
    rw [List.map_append]
    have e : (dats (homed j u)).map Dat.i = (dats u).map Dat.i := by
      rw [homed_dats, List.map_map]
      rfl
    rw [e]
    refine List.nodup_append.mpr ⟨G.ndI hs, G.ndI ht, fun x hx y hy exy => ?_⟩
    obtain ⟨d, hd, rfl⟩ := List.mem_map.mp hx
    obtain ⟨d', hd', rfl⟩ := List.mem_map.mp hy
    exact hne (G.one hs ht hd hd' exy).1
  refine ⟨G.len, fun v hv => ?_, fun v hv => ?_, fun i v hv d hd => ?_, fun i a h => ?_, G.ent, ?_⟩
  · rcases mem2 v hv with z | z | z
    · rw [z]
      exact joinHO (G.ho s (get_mem hs)) (homed_HO j (G.ho u (get_mem ht))) nI
    · rw [z]
      trivial
    · exact G.ho v z
  · rcases mem2 v hv with z | z | z
    · rw [z]
      exact joinLO (G.lo s (get_mem hs)) (homed_LO j (G.lo u (get_mem ht)))
    · rw [z]
      trivial
    · exact G.lo v z
  · rcases idx i v hv with ⟨z1, z2⟩ | ⟨z1, z2⟩ | ⟨z1, z2, z3⟩
    · subst z2
      rw [z1]
      rcases (mem d).mp hd with q | ⟨e, he, q⟩
      · exact G.home j s hs d q
      · rw [q]
        exact ⟨rfl, (G.home o u ht e he).2⟩
    · subst z2
      cases hd
    · exact G.home i v z3 d hd
  · obtain ⟨j', v, d, hv, hd, e1, e2⟩ := G.back i a h
    have at_ : ((S.ts.set o .nil).set j (join s (homed j u)).1)[j]? = some (join s (homed j u)).1 := List.getElem?_set_self (get_len hs1)
    by_cases c : j' = j
    · subst c
      rw [hs] at hv
      cases hv
      exact ⟨j', _, d, at_, (mem d).mpr (.inl hd), e1, e2⟩
    · by_cases c2 : j' = o
      · subst c2
        rw [ht] at hv
        cases hv
        exact ⟨j, _, { d with h := (j : Int) }, at_, (mem _).mpr (.inr ⟨d, hd, rfl⟩), e1, e2⟩
      · refine ⟨j', v, d, ?_, hd, e1, e2⟩
        show ((S.ts.set o .nil).set j (join s (homed j u)).1)[j']? = some v
        rw [List.getElem?_set_ne (Ne.symm c), List.getElem?_set_ne (Ne.symm c2)]
        exact hv
  · have p1 := flat_set (t := .nil) ht
    have p2 := flat_set (t := (join s (homed j u)).1) hs1
    have p3 := join_addrs s (homed j u)
    rw [homed_addrs] at p3
    refine List.Perm.nodup_iff ?_ |>.mpr G.nd
    refine List.perm_iff_count.mpr fun x => ?_
    show List.count x (((S.ts.set o .nil).set j (join s (homed j u)).1).flatMap Tre.addrs) = _
    have c1 := List.perm_iff_count.mp p1 x
    have c2 := List.perm_iff_count.mp p2 x
    have c3 := List.perm_iff_count.mp p3 x
    rw [List.count_append, List.count_append] at c1 c2
    rw [List.count_append] at c3
    have c4 : List.count x (Tre.addrs .nil) = 0 := rfl
    omega
theorem sunk_yes {n : Nd} {l r : Tre} {w : Int} {f : Up} {fs : List Up} (h : lt { n with w := w } f.n) : sunk n l r w (f :: fs) =
    ((join (climb .nil (f :: fs)).1 (.nd { n with w := w } l r)).1, (climb .nil (f :: fs)).2 + (join (climb .nil (f :: fs)).1 (.nd { n with w := w } l r)).2) := if_pos h
theorem sunk_no {n : Nd} {l r : Tre} {w : Int} {f : Up} {fs : List Up} (h : ¬ lt { n with w := w } f.n) : sunk n l r w (f :: fs) = (plug (.nd { n with w := w } l r) (f :: fs), 0) := if_neg h
/-- what stands where something sank -/
theorem sunk_dats (n : Nd) (l r : Tre) (w : Int) (fs : List Up) : (dats (sunk n l r w fs).1).Perm (dats (.nd { n with w := w } l r) ++ upDats fs) := by
  cases fs with
  | nil =>
    show (dats (.nd { n with w := w } l r)).Perm (dats (.nd { n with w := w } l r) ++ [])
    rw [List.append_nil]
  | cons f fs =>
    by_cases c : lt { n with w := w } f.n
    · rw [sunk_yes c]
      refine (joinD _ _).trans (List.perm_append_comm.trans (List.Perm.append_left _ ?_))
      exact (climb_dats (f :: fs) .nil).trans (List.Perm.refl _)
    · rw [sunk_no c]
      exact plug_dats _ _
theorem nd_w_LO {n : Nd} {l r : Tre} (w : Int) (h : LO (.nd n l r)) : LO (.nd { n with w := w } l r) := h
theorem dlt_w {n : Nd} {w : Int} {d : Dat} (hw : w ≤ n.w) (h : dlt n.dat d) : dlt ({ n with w := w } : Nd).dat d := by
  unfold dlt Nd.dat at *
  simp only at *
  omega
theorem nd_w_HO {n : Nd} {l r : Tre} {w : Int} (hw : w ≤ n.w) (h : HO (.nd n l r)) : HO (.nd { n with w := w } l r) :=
  ⟨fun d hd => dlt_w hw (h.1 d hd), fun d hd => dlt_w hw (h.2.1 d hd), h.2.2.1, h.2.2.2⟩
theorem sunk_LO {n : Nd} {l r : Tre} {w : Int} {fs : List Up} (h : LO (plug (.nd n l r) fs)) : LO (sunk n l r w fs).1 := by
  obtain ⟨h1, h2⟩ := LO_plug fs _ h
  cases fs with
  | nil => exact nd_w_LO w h1
  | cons f fs =>
    by_cases c : lt { n with w := w } f.n
    · rw [sunk_yes c]
      exact joinLO (climb_LO (f :: fs) .nil _ trivial h2) (nd_w_LO w h1)
    · rw [sunk_no c]
      exact plug_LO (f :: fs) _ (nd_w_LO w h1) h2
theorem sunk_HO {n : Nd} {l r : Tre} {w : Int} {fs : List Up} (h : HO (plug (.nd n l r) fs)) (hw : w ≤ n.w) (hI : ((dats (plug (.nd n l r) fs)).map Dat.i).Nodup) : HO (sunk n l r w fs).1 := by
  obtain ⟨h1, h2, h3⟩ := HO_plug fs _ h
  have h4 := nd_w_HO hw h1
  have hI2 : ((dats (.nd n l r) ++ upDats fs).map Dat.i).Nodup := (((plug_dats fs (.nd n l r)).map Dat.i).nodup_iff).mp hI
  have ei : (dats (.nd { n with w := w } l r)).map Dat.i = (dats (.nd n l r)).map Dat.i := by
    rw [dats_nd, dats_nd]
    rfl
  cases fs with
  | nil => exact h4
  | cons f fs =>
    by_cases c : lt { n with w := w } f.n
    · rw [sunk_yes c]
      refine joinHO (climb_HO (f :: fs) .nil h2 (fun d hd => by cases hd) trivial) h4 ?_
      have pc : ((dats (climb .nil (f :: fs)).1).map Dat.i).Perm ((upDats (f :: fs)).map Dat.i) := (climb_dats (f :: fs) .nil).map Dat.i
      rw [List.map_append, ei]
      rw [List.map_append] at hI2
      refine ((pc.append_right _).trans List.perm_append_comm).nodup_iff.mpr hI2
    · rw [sunk_no c]
      refine plug_HO (f :: fs) _ h2 (fun d hd g hg => ?_) h4
      rw [dats_nd] at hd
      rcases List.mem_cons.mp hd with z | z
      · -- the thing itself
        have ni : ({ n with w := w } : Nd).i ≠ f.n.i := fun e => by
          rw [List.map_append, List.nodup_append] at hI2
          refine hI2.2.2 n.i ?_ f.n.i ?_ e
          · rw [dats_nd]
            exact List.mem_cons_self
          · exact List.mem_cons_self
        have lt1 : dlt f.n.dat ({ n with w := w } : Nd).dat := lt_dat.mp (lt_total ni c)
        rw [z]
        rcases List.mem_cons.mp hg with q | q
        · rw [q]
          exact lt1
        · exact dlt_trans (h2.2.2.1 g q).1 lt1
      · exact h3 d (by rw [dats_nd]; exact List.mem_cons_of_mem _ z) g hg
theorem Good.sink (G : Good S) {n : Nd} {l r : Tre} {fs : List Up} {w : Int} (hs : S.ts[j]? = some (plug (.nd n l r) fs)) (hw : w ≤ n.w) : Good (S.sink j n l r w fs) := by
  unfold Fs.sink
  have pm := sunk_dats n l r w fs
  have p0 := plug_dats fs (.nd n l r)
  have mem : ∀ d, d ∈ dats (sunk n l r w fs).1 → ∃ e ∈ dats (plug (.nd n l r) fs), d.i = e.i ∧ d.a = e.a ∧ d.h = e.h := fun d hd => by
    rcases List.mem_append.mp (pm.mem_iff.mp hd) with z | z
    · rw [dats_nd] at z
      rcases List.mem_cons.mp z with z | z
      · refine ⟨n.dat, p0.mem_iff.mpr (List.mem_append_left _ (by rw [dats_nd]; exact List.mem_cons_self)), ?_⟩
        rw [z]
        exact ⟨rfl, rfl, rfl⟩
      · exact ⟨d, p0.mem_iff.mpr (List.mem_append_left _ (by rw [dats_nd]; exact List.mem_cons_of_mem _ z)), rfl, rfl, rfl⟩
    · exact ⟨d, p0.mem_iff.mpr (List.mem_append_right _ z), rfl, rfl, rfl⟩
  have back : ∀ e, e ∈ dats (plug (.nd n l r) fs) → ∃ d ∈ dats (sunk n l r w fs).1, d.i = e.i ∧ d.a = e.a := fun e he => by
    rcases List.mem_append.mp (p0.mem_iff.mp he) with z | z
    · rw [dats_nd] at z
      rcases List.mem_cons.mp z with z | z
      · refine ⟨({ n with w := w } : Nd).dat, pm.mem_iff.mpr (List.mem_append_left _ (by rw [dats_nd]; exact List.mem_cons_self)), ?_⟩
        rw [z]
        exact ⟨rfl, rfl⟩
      · exact ⟨e, pm.mem_iff.mpr (List.mem_append_left _ (by rw [dats_nd]; exact List.mem_cons_of_mem _ z)), rfl, rfl⟩
    · exact ⟨e, pm.mem_iff.mpr (List.mem_append_right _ z), rfl, rfl⟩
  have pa : (Tre.addrs (sunk n l r w fs).1).Perm (Tre.addrs (plug (.nd n l r) fs)) := by
    have q1 := pm.map Dat.a
    have q2 := p0.map Dat.a
    rw [List.map_append] at q1 q2
    have e : (dats (.nd { n with w := w } l r)).map Dat.a = (dats (.nd n l r)).map Dat.a := by
      rw [dats_nd, dats_nd]
      rfl
    rw [e] at q1
    exact q1.trans q2.symm
  have hA : (Tre.addrs (plug (.nd n l r) fs)).Nodup := by
    obtain ⟨A, B, eS, _⟩ := at_split hs
    have hnd := G.nd
    rw [eS] at hnd
    exact (List.nodup_append.mp (flat_split.nodup_iff.mp hnd)).1
  refine G.repl hs G.len (sunk_HO (G.ho _ (get_mem hs)) hw (G.ndI hs)) (sunk_LO (G.lo _ (get_mem hs))) (fun d hd => ?_) (pa.nodup_iff.mpr hA) (fun b hb => .inl (pa.mem_iff.mp hb)) (fun i b h _ => h) (fun i b h => ?_) G.ent
  · obtain ⟨e, he, e1, e2, e3⟩ := mem d hd
    have q := G.home j _ hs e he
    rw [e1, e2, e3]
    exact q
  · by_cases c2 : b ∈ Tre.addrs (plug (.nd n l r) fs)
    · obtain ⟨e, he, e1, e2⟩ := G.inT h hs c2
      obtain ⟨d, hd, q1, q2⟩ := back e he
      exact .inr ⟨d, hd, q1.trans e1, q2.trans e2⟩
    · exact .inl ⟨h, c2⟩
/-- the place of a thing in its tree -/
theorem plug_app : ∀ (fs gs : List Up) (t : Tre), plug t (fs ++ gs) = plug (plug t fs) gs
  | [], _, _ => rfl
  | f :: fs, gs, t => plug_app fs gs (put1 f t)
theorem place : ∀ (t : Tre) (d : Dat), d ∈ dats t → ∃ (n : Nd) (l r : Tre) (fs : List Up), t = plug (.nd n l r) fs ∧ n.dat = d
  | .nil, d, h => by cases h
  | .nd n l r, d, h => by
    rw [dats_nd] at h
    rcases List.mem_cons.mp h with z | z
    · exact ⟨n, l, r, [], rfl, z.symm⟩
    · rcases List.mem_append.mp z with z | z
      · obtain ⟨m, p, q, fs, e, hd⟩ := place l d z
        exact ⟨m, p, q, fs ++ [⟨n, false, r⟩], by rw [plug_app, ← e]; rfl, hd⟩
      · obtain ⟨m, p, q, fs, e, hd⟩ := place r d z
        exact ⟨m, p, q, fs ++ [⟨n, true, l⟩], by rw [plug_app, ← e]; rfl, hd⟩
end
/-! ### the field in memory -/
def ff (lt ln : Addr) (wk : Int) : List (Str × V) := [("_tops", .ref lt), ("_nodes", .ref ln), ("_work", .int wk)]
theorem fe_nt : (("_nodes" : Str) == "_tops") = false := by decide +kernel
theorem fe_wt : (("_work" : Str) == "_tops") = false := by decide +kernel
theorem fe_wn : (("_work" : Str) == "_nodes") = false := by decide +kernel
section
variable {lt ln : Addr} {wk z : Int}
theorem ff_tops : (ff lt ln wk).lookup ("_tops" : Str) = some (V.ref lt) := lk_eq
theorem ff_nodes : (ff lt ln wk).lookup ("_nodes" : Str) = some (V.ref ln) := (lk_ne fe_nt).trans lk_eq
theorem ff_work : (ff lt ln wk).lookup ("_work" : Str) = some (V.int wk) := (lk_ne fe_wt).trans ((lk_ne fe_wn).trans lk_eq)
theorem ff_put : putF ("_work" : Str) (V.int z) (ff lt ln wk) = ff lt ln z := (pf_ne fe_wt).trans (congrArg (List.cons _) ((pf_ne fe_wn).trans (congrArg (List.cons _) pf_eq)))
theorem ff_len : (ff lt ln wk).length < 1000 := by show 3 < 1000; decide
theorem ff_no {m : Str} (h1 : (m == "_tops") = false) (h2 : (m == "_nodes") = false) (h3 : (m == "_work") = false) : (ff lt ln wk).lookup m = none := by
  unfold ff
  rw [lk_ne h1, lk_ne h2, lk_ne h3]
  rfl
theorem ff_new : putF ("_work" : Str) (V.int 0) (putF ("_nodes" : Str) (V.ref ln) (putF ("_tops" : Str) (V.ref lt) [])) = ff lt ln 0 := by
  have e1 : putF ("_nodes" : Str) (V.ref ln) (putF ("_tops" : Str) (V.ref lt) []) = ([("_tops", .ref lt), ("_nodes", .ref ln)] : List (Str × V)) := by
    rw [pf_nil]
    exact (pf_ne fe_nt).trans (congrArg (List.cons _) pf_nil)
  rw [e1]
  exact (pf_ne fe_wt).trans (congrArg (List.cons _) ((pf_ne fe_wn).trans (congrArg (List.cons _) pf_nil)))
end
theorem ff_ne_nf {lt ln C D dx dy : Addr} {wk i w h k : Int} {ab l r : V} : HO.ins D dx (ff lt ln wk) ≠ HO.ins C dy (nf i w h ab l r k) := fun e => by
  injection e with _ _ e
  have := congrArg List.length e
  exact absurd this (by show ¬ 3 = 7; decide)
/-- the field of the state S stands at p; H0: all else that was known -/
structure FAt (C D : Addr) (H0 H : Hp) (p dx lt ln : Addr) (S : Fs) : Prop where
  same : Same H0 H
  p0 : H0 p = none
  t0 : H0 lt = none
  n0 : H0 ln = none
  ob : H p = some (.ins D dx (ff lt ln S.wk))
  lts : H lt = some (.lst (S.ts.map ref))
  lns : H ln = some (.lst S.ns)
  ne : lt ≠ ln
  tr : ∀ t ∈ S.ts, TAt C H t .non ∧ ∀ b ∈ Tre.addrs t, H0 b = none
theorem TAt.nfs : ∀ {C : Addr} {H : Hp} {t : Tre} {ab : V}, TAt C H t ab → ∀ b ∈ Tre.addrs t, ∃ dx i w h x l r k, H b = some (.ins C dx (nf i w h x l r k))
  | _, _, .nil, _, _ => fun b hb => by cases hb
  | C, H, .nd n l r, ab, h => fun b hb => by
    rw [addrs_nd] at hb
    rcases List.mem_cons.mp hb with e | hb
    · subst e
      obtain ⟨dx, e⟩ := h.1
      exact ⟨dx, _, _, _, _, _, _, _, e⟩
    · rcases List.mem_append.mp hb with z | z
      · exact h.2.1.nfs b z
      · exact h.2.2.nfs b z
section
variable {C D : Addr} {H0 H H' : Hp} {p dx lt ln : Addr} {S : Fs}
theorem FAt.apart (A : FAt C D H0 H p dx lt ln S) {t : Tre} {ab : V} (h : TAt C H t ab) : p ∉ Tre.addrs t ∧ lt ∉ Tre.addrs t ∧ ln ∉ Tre.addrs t := by
  refine ⟨fun z => ?_, fun z => ?_, fun z => ?_⟩
  · obtain ⟨d, i, w, hh, x, l, r, k, e⟩ := h.nfs p z
    rw [A.ob] at e
    exact ff_ne_nf (Option.some.inj e)
  · obtain ⟨d, i, w, hh, x, l, r, k, e⟩ := h.nfs lt z
    rw [A.lts] at e
    cases e
  · obtain ⟨d, i, w, hh, x, l, r, k, e⟩ := h.nfs ln z
    rw [A.lns] at e
    cases e
theorem FAt.pt (A : FAt C D H0 H p dx lt ln S) : p ≠ lt ∧ p ≠ ln :=
  ⟨ne_of A.ob A.lts (by intro z; cases z), ne_of A.ob A.lns (by intro z; cases z)⟩
/-- one tree told anew -/
theorem FAt.repl (A : FAt C D H0 H p dx lt ln S) (hnd : (S.ts.flatMap Tre.addrs).Nodup) {j : Nat} {s t : Tre} {ns : List V} {wk : Int} (hj : S.ts[j]? = some s) (ex : List Addr) (hex : ∀ b ∈ ex, H0 b = none ∧ b ∉ S.ts.flatMap Tre.addrs)
    (fr : Frame (p :: lt :: ln :: (Tre.addrs s ++ ex)) H H') (ob : H' p = some (.ins D dx (ff lt ln wk))) (l1 : H' lt = some (.lst ((S.ts.set j t).map ref))) (l2 : H' ln = some (.lst ns)) (ht : TAt C H' t .non)
    (sub : ∀ b ∈ Tre.addrs t, b ∈ Tre.addrs s ∨ b ∈ ex) : FAt C D H0 H' p dx lt ln ⟨S.ts.set j t, ns, wk⟩ := by
  obtain ⟨X, Y, eS, hX⟩ := at_split hj
  rw [eS] at hnd
  obtain ⟨n1, n2, n3⟩ := nodup_app (flat_split.nodup_iff.mp hnd)
  have s0 : ∀ b ∈ Tre.addrs s, H0 b = none := (A.tr s (get_mem hj)).2
  refine ⟨fun b o hb => ?_, A.p0, A.t0, A.n0, ob, l1, l2, A.ne, fun u hu => ?_⟩
  · refine fr b o (A.same b o hb) fun z => ?_
    have no : ∀ c, H0 c = none → b ≠ c := fun c hc e => by
      rw [e, hc] at hb
      cases hb
    rcases List.mem_cons.mp z with z | z
    · exact no _ A.p0 z
    rcases List.mem_cons.mp z with z | z
    · exact no _ A.t0 z
    rcases List.mem_cons.mp z with z | z
    · exact no _ A.n0 z
    rcases List.mem_append.mp z with z | z
    · exact no b (s0 b z) rfl
    · exact no b (hex b z).1 rfl
  · have hu' : u ∈ X ++ t :: Y := by
      have e : S.ts.set j t = X ++ t :: Y := by
        rw [eS, ← hX]
        exact set_split X Y s t
      have hu2 : u ∈ S.ts.set j t := hu
      rw [e] at hu2
      exact hu2
    have other : u ∈ X ∨ u ∈ Y → TAt C H' u .non ∧ ∀ b ∈ Tre.addrs u, H0 b = none := fun h => by
      have hm : u ∈ S.ts := by
        rw [eS]
        rcases h with h | h
        · exact List.mem_append_left _ h
        · exact List.mem_append_right _ (List.mem_cons_of_mem _ h)
      have q := A.tr u hm
      refine ⟨q.1.keep fr fun b hb z => ?_, q.2⟩
      have ap := A.apart q.1
      rcases List.mem_cons.mp z with z | z
      · exact ap.1 (by rw [← z]; exact hb)
      rcases List.mem_cons.mp z with z | z
      · exact ap.2.1 (by rw [← z]; exact hb)
      rcases List.mem_cons.mp z with z | z
      · exact ap.2.2 (by rw [← z]; exact hb)
      rcases List.mem_append.mp z with z | z
      · refine n3 b z ?_
        rcases h with h | h
        · exact List.mem_append_left _ (List.mem_flatMap.mpr ⟨u, h, hb⟩)
        · exact List.mem_append_right _ (List.mem_flatMap.mpr ⟨u, h, hb⟩)
      · exact (hex b z).2 (List.mem_flatMap.mpr ⟨u, hm, hb⟩)
    rcases List.mem_append.mp hu' with z | z
    · exact other (.inl z)
    · rcases List.mem_cons.mp z with z | z
      · rw [z]
        exact ⟨ht, fun b hb => (sub b hb).elim (s0 b) fun q => (hex b q).1⟩
      · exact other (.inr z)
/-- an object of the others' is written, or made: the field stays -/
theorem FAt.wr (A : FAt C D H0 H p dx lt ln S) {q : Addr} {o : HO} (hq : H0 q ≠ none ∨ H q = none) : FAt C D (upd H0 q o) (upd H q o) p dx lt ln S := by
  have ne : ∀ b u, H b = some u → H0 b = none → b ≠ q := fun b u h h0 e => by
    subst e
    rcases hq with z | z
    · exact z h0
    · rw [h] at z
      cases z
  have up : ∀ b u, H b = some u → H0 b = none → (upd H0 q o) b = none := fun b u h h0 => by
    rw [upd_ne (ne b u h h0)]
    exact h0
  have up2 : ∀ b u, H b = some u → H0 b = none → (upd H q o) b = some u := fun b u h h0 => by
    rw [upd_ne (ne b u h h0)]
    exact h
  refine ⟨fun b u hb => ?_, up _ _ A.ob A.p0, up _ _ A.lts A.t0, up _ _ A.lns A.n0, up2 _ _ A.ob A.p0, up2 _ _ A.lts A.t0, up2 _ _ A.lns A.n0, A.ne, fun t ht => ?_⟩
  · by_cases e : b = q
    · subst e
      rw [upd_same] at hb ⊢
      exact hb
    · rw [upd_ne e] at hb ⊢
      exact A.same b u hb
  · have q1 := A.tr t ht
    have f : Frame [q] H (upd H q o) := Frame.wr (List.mem_singleton.mpr rfl)
    have n1 : ∀ b ∈ Tre.addrs t, b ≠ q := fun b hb => by
      obtain ⟨d, fs, e⟩ := q1.1.there b hb
      exact ne b _ e (q1.2 b hb)
    refine ⟨q1.1.keep f fun b hb z => n1 b hb (List.mem_singleton.mp z), fun b hb => ?_⟩
    rw [upd_ne (n1 b hb)]
    exact q1.2 b hb
end
/-- a good field stands at p -/
def Fd (C D : Addr) (H0 H : Hp) (p : Addr) (S : Fs) : Prop := Good S ∧ ∃ dx lt ln, FAt C D H0 H p dx lt ln S
theorem Fd.same {C D : Addr} {H0 H : Hp} {p : Addr} {S : Fs} (F : Fd C D H0 H p S) : Same H0 H := let ⟨_, _, _, _, A⟩ := F; A.same
theorem Fd.wr {C D : Addr} {H0 H : Hp} {p : Addr} {S : Fs} (F : Fd C D H0 H p S) {q : Addr} {o : HO} (hq : H0 q ≠ none ∨ H q = none) : Fd C D (upd H0 q o) (upd H q o) p S :=
  let ⟨G, dx, lt, ln, A⟩ := F
  ⟨G, dx, lt, ln, A.wr hq⟩
theorem Fd.later {C D : Addr} {H0 H H' : Hp} {p : Addr} {S : Fs} (F : Fd C D H0 H p S) (sm : Same H H') : Fd C D H0 H' p S := by
  obtain ⟨G, dx, lt, ln, A⟩ := F
  exact ⟨G, dx, lt, ln, fun b o hb => sm _ _ (A.same b o hb), A.p0, A.t0, A.n0, sm _ _ A.ob, sm _ _ A.lts, sm _ _ A.lns, A.ne, fun t ht => ⟨(A.tr t ht).1.same sm, (A.tr t ht).2⟩⟩
theorem Fd.obj {C D : Addr} {H0 H : Hp} {p : Addr} {S : Fs} (F : Fd C D H0 H p S) : ∃ dx lt ln, H p = some (.ins D dx (ff lt ln S.wk)) ∧ ∀ m, (m == ("_tops" : Str)) = false → (m == ("_nodes" : Str)) = false → (m == ("_work" : Str)) = false → (ff lt ln S.wk).lookup m = none :=
  let ⟨_, dx, lt, ln, A⟩ := F
  ⟨dx, lt, ln, A.ob, fun _ h1 h2 h3 => ff_no h1 h2 h3⟩
/-- two fields: either may be the last one -/
theorem Fd.swap {C D : Addr} {H0 H1 H : Hp} {p q : Addr} {S R : Fs} (F : Fd C D H0 H1 p S) (G : Fd C D H1 H q R) : ∃ H2, Fd C D H0 H2 q R ∧ Fd C D H2 H p S := by
  obtain ⟨GS, dx, lt, ln, A⟩ := F
  obtain ⟨GR, dy, mt, mn, B⟩ := G
  -- the addresses of the first field
  let own : Addr → Prop := fun b => H0 b = none ∧ (b = p ∨ b = lt ∨ b = ln ∨ b ∈ S.ts.flatMap Tre.addrs)
  have hown : ∀ b, own b → H1 b ≠ none := fun b hb z => by
    rcases hb.2 with e | e | e | e
    · rw [e, A.ob] at z
      cases z
    · rw [e, A.lts] at z
      cases z
    · rw [e, A.lns] at z
      cases z
    · obtain ⟨t, ht, hb2⟩ := List.mem_flatMap.mp e
      obtain ⟨d, fs, e2⟩ := (A.tr t ht).1.there b hb2
      rw [e2] at z
      cases z
  have dec : ∀ b, own b ∨ ¬ own b := fun b => Classical.em _
  let H2 : Hp := fun b => @ite _ (own b) (Classical.propDecidable _) none (H b)
  have on : ∀ b, own b → H2 b = none := fun b h => if_pos h
  have off : ∀ b, ¬ own b → H2 b = H b := fun b h => if_neg h
  have off1 : ∀ b, H1 b = none → H2 b = H b := fun b h => off b fun z => hown b z h
  have keep1 : ∀ t, t ∈ R.ts → TAt C H2 t .non := fun t ht => by
    have key : ∀ (t : Tre) (ab : V), TAt C H t ab → (∀ b ∈ Tre.addrs t, H1 b = none) → TAt C H2 t ab := by
      intro t
      induction t with
      | nil => intro ab h _
               exact h
      | nd n l r ihl ihr =>
        intro ab h hn
        rw [addrs_nd] at hn
        obtain ⟨⟨dd, e⟩, hl, hr⟩ := h
        exact ⟨⟨dd, (off1 _ (hn _ List.mem_cons_self)).trans e⟩, ihl _ hl fun b hb => hn b (List.mem_cons_of_mem _ (List.mem_append_left _ hb)), ihr _ hr fun b hb => hn b (List.mem_cons_of_mem _ (List.mem_append_right _ hb))⟩
    exact key t _ (B.tr t ht).1 (B.tr t ht).2
  have none0 : ∀ b, H1 b = none → H0 b = none := fun b h => by
    cases e : H0 b with
    | none => rfl
    | some o =>
      have := A.same b o e
      rw [h] at this
      cases this
  refine ⟨H2, ⟨GR, dy, mt, mn, fun b o hb => ?_, none0 _ B.p0, none0 _ B.t0, none0 _ B.n0, (off1 _ B.p0).trans B.ob, (off1 _ B.t0).trans B.lts, (off1 _ B.n0).trans B.lns, B.ne, fun t ht => ⟨keep1 t ht, fun b hb => none0 b ((B.tr t ht).2 b hb)⟩⟩,
    ⟨GS, dx, lt, ln, fun b o hb => ?_, on _ ⟨A.p0, .inl rfl⟩, on _ ⟨A.t0, .inr (.inl rfl)⟩, on _ ⟨A.n0, .inr (.inr (.inl rfl))⟩, B.same _ _ A.ob, B.same _ _ A.lts, B.same _ _ A.lns, A.ne, fun t ht => ⟨(A.tr t ht).1.same B.same, fun b hb => on b ⟨(A.tr t ht).2 b hb, .inr (.inr (.inr (List.mem_flatMap.mpr ⟨t, ht, hb⟩)))⟩⟩⟩⟩
  · have h1 : ¬ own b := fun z => by
      rw [z.1] at hb
      cases hb
    rw [off b h1]
    exact B.same _ _ (A.same _ _ hb)
  · rcases dec b with z | z
    · rw [on b z] at hb
      cases hb
    · rw [off b z] at hb
      exact hb
/-- texts of the refusals fit -/
theorem txt_len {i : Int} (h : i.natAbs.log2 < 1920) : (toString i : Str).length ≤ 2000 := by
  have e := int_text_length_le (k := 1920) (by decide) h
  have e2 : (toString i : Str).length = (toString i).length := ofString_length _
  omega
theorem app_fits {x y : Str} {n m : Nat} (hx : x.length ≤ n) (hy : y.length ≤ m) : (x ++ y).length ≤ n + m := by
  rw [Str.length_append]
  omega
theorem fits {n : Nat} (h : n ≤ 10000) : n ≤ sizeLine := Nat.le_trans h (by decide)
theorem n_yes {p A B : Prop} [Decidable p] (h : p) (q : B) : if (!decide p) = true then A else B := by
  rw [decide_eq_true h]
  exact iteF q
theorem n_no {p A B : Prop} [Decidable p] (h : ¬ p) (q : A) : if (!decide p) = true then A else B := by
  rw [decide_eq_false h]
  exact iteT q
/-! ### the rows of a law: by thing its weight and its heap -/
theorem Good.ndT {S : Fs} (G : Good S) {j : Nat} {s : Tre} (hs : S.ts[j]? = some s) : (Tre.addrs s).Nodup := by
  obtain ⟨X, Y, eS, _⟩ := at_split hs
  have hnd := G.nd
  rw [eS] at hnd
  exact (List.nodup_append.mp (flat_split.nodup_iff.mp hnd)).1
theorem Good.ndP {S : Fs} (G : Good S) {j o : Nat} {s u : Tre} (hs : S.ts[j]? = some s) (hu : S.ts[o]? = some u) (hne : j ≠ o) : ∀ b ∈ Tre.addrs s, b ∉ Tre.addrs u := fun b hb hb2 => by
  obtain ⟨d, hd, ed⟩ := List.mem_map.mp hb
  obtain ⟨e, he, ee⟩ := List.mem_map.mp hb2
  exact hne (G.oneA hs hu hd he (ed.trans ee.symm)).1
structure Rows (S : Fs) (ws : List Int) (hs : List (Option Nat)) : Prop where
  n1 : S.ns.length = ws.length
  n2 : hs.length = ws.length
  to : ∀ (j : Nat) (t : Tre), S.ts[j]? = some t → ∀ d ∈ dats t, ws[d.i]? = some d.w ∧ hs[d.i]? = some (some j)
  of : ∀ i j : Nat, hs[i]? = some (some j) → ∃ t d, S.ts[j]? = some t ∧ d ∈ dats t ∧ d.i = i
/-- the things of heap j among the first m, each with its weight -/
def rowsTo (ws : List Int) (hs : List (Option Nat)) (j m : Nat) : List (Int × Int) := ((List.range m).filter fun k => decide (hs[k]? = some (some j))).map fun k => (ws.getD k 0, (k : Int))
def rowsOf (ws : List Int) (hs : List (Option Nat)) (j : Nat) : List (Int × Int) := rowsTo ws hs j ws.length
def datP (d : Dat) : Int × Int := (d.w, (d.i : Int))
theorem rowsTo_zero (ws : List Int) (hs : List (Option Nat)) (j : Nat) : rowsTo ws hs j 0 = [] := rfl
theorem rowsTo_yes {ws : List Int} {hs : List (Option Nat)} {j m : Nat} {w : Int} (h : hs[m]? = some (some j)) (hw : ws[m]? = some w) : rowsTo ws hs j (m + 1) = rowsTo ws hs j m ++ [(w, (m : Int))] := by
  unfold rowsTo
  rw [List.range_succ, List.filter_append, List.map_append]
  congr 1
  rw [List.filter_cons_of_pos (by rw [decide_eq_true_eq]; exact h), List.filter_nil]
  show [(ws.getD m 0, (m : Int))] = _
  rw [List.getD_eq_getElem?_getD, hw]
  rfl
theorem rowsTo_no {ws : List Int} {hs : List (Option Nat)} {j m : Nat} (h : hs[m]? ≠ some (some j)) : rowsTo ws hs j (m + 1) = rowsTo ws hs j m := by
  unfold rowsTo
  rw [List.range_succ, List.filter_append, List.map_append, List.filter_cons_of_neg (by rw [decide_eq_true_eq]; exact h), List.filter_nil, List.map_nil, List.append_nil]
theorem rowsTo_len (ws : List Int) (hs : List (Option Nat)) (j m : Nat) : (rowsTo ws hs j m).length ≤ m := by
  unfold rowsTo
  rw [List.length_map]
  exact Nat.le_trans (List.length_filter_le _ _) (by rw [List.length_range]; exact Nat.le_refl _)
theorem mem_rowsTo {ws : List Int} {hs : List (Option Nat)} {j m : Nat} {q : Int × Int} : q ∈ rowsTo ws hs j m ↔ ∃ k, k < m ∧ hs[k]? = some (some j) ∧ q = (ws.getD k 0, (k : Int)) := by
  unfold rowsTo
  rw [List.mem_map]
  refine ⟨fun ⟨k, h, e⟩ => ?_, fun ⟨k, h1, h2, e⟩ => ⟨k, List.mem_filter.mpr ⟨List.mem_range.mpr h1, by rw [decide_eq_true_eq]; exact h2⟩, e.symm⟩⟩
  obtain ⟨a, b⟩ := List.mem_filter.mp h
  exact ⟨k, List.mem_range.mp a, by rw [decide_eq_true_eq] at b; exact b, e.symm⟩
theorem nodup_map_inj {α β : Type} {f : α → β} : ∀ {l : List α}, (∀ x ∈ l, ∀ y ∈ l, f x = f y → x = y) → l.Nodup → (l.map f).Nodup
  | [], _, _ => List.nodup_nil
  | x :: l, hf, h => by
    rw [List.nodup_cons] at h
    rw [List.map_cons, List.nodup_cons]
    refine ⟨fun z => ?_, nodup_map_inj (fun a ha b hb => hf a (List.mem_cons_of_mem _ ha) b (List.mem_cons_of_mem _ hb)) h.2⟩
    obtain ⟨y, hy, e⟩ := List.mem_map.mp z
    rw [hf y (List.mem_cons_of_mem _ hy) x List.mem_cons_self e] at hy
    exact h.1 hy
theorem nodup_of_map {α β : Type} {f : α → β} : ∀ {l : List α}, (l.map f).Nodup → l.Nodup
  | [], _ => List.nodup_nil
  | x :: l, h => by
    rw [List.map_cons, List.nodup_cons] at h
    rw [List.nodup_cons]
    exact ⟨fun z => h.1 (List.mem_map_of_mem z), nodup_of_map h.2⟩
theorem rowsTo_nodup (ws : List Int) (hs : List (Option Nat)) (j m : Nat) : (rowsTo ws hs j m).Nodup := by
  unfold rowsTo
  refine nodup_map_inj (fun x _ y _ e => ?_) (List.nodup_range.filter _)
  have := (Prod.mk.inj e).2
  omega
section
variable {S : Fs} {t s : Tre} {j : Nat} {ws : List Int} {hs : List (Option Nat)}
theorem idx_set {α : Type} {l : List α} {j i : Nat} {s t u : α} (hs : l[j]? = some s) : (l.set j t)[i]? = some u ↔ (i = j ∧ u = t) ∨ (i ≠ j ∧ l[i]? = some u) := by
  by_cases c : i = j
  · subst c
    rw [List.getElem?_set_self (get_len hs)]
    exact ⟨fun e => .inl ⟨rfl, (Option.some.inj e).symm⟩, fun e => e.elim (fun q => by rw [q.2]) fun q => absurd rfl q.1⟩
  · rw [List.getElem?_set_ne (Ne.symm c)]
    exact ⟨fun e => .inr ⟨c, e⟩, fun e => e.elim (fun q => absurd q.1 c) fun q => q.2⟩
theorem Rows.perm (R : Rows S ws hs) (G : Good S) (h : S.ts[j]? = some t) : ((dats t).map datP).Perm (rowsOf ws hs j) := by
  have n1 : ((dats t).map datP).Nodup := by
    refine nodup_of_map (f := fun q => q.2.toNat) ?_
    rw [List.map_map]
    have e : ((fun q : Int × Int => q.2.toNat) ∘ datP) = Dat.i := rfl
    rw [e]
    exact G.ndI h
  refine (List.perm_ext_iff_of_nodup n1 (rowsTo_nodup _ _ _ _)).mpr fun q => ?_
  rw [mem_rowsTo, List.mem_map]
  refine ⟨fun ⟨d, hd, e⟩ => ?_, fun ⟨k, hk, hh, e⟩ => ?_⟩
  · obtain ⟨a, b⟩ := R.to j t h d hd
    exact ⟨d.i, get_len a, b, by rw [← e, List.getD_eq_getElem?_getD, a]; rfl⟩
  · obtain ⟨t', d, ht, hd, ei⟩ := R.of k j hh
    rw [h] at ht
    cases ht
    refine ⟨d, hd, ?_⟩
    obtain ⟨a, b⟩ := R.to j t h d hd
    rw [e, ← ei, List.getD_eq_getElem?_getD, a]
    rfl
theorem Rows.size (R : Rows S ws hs) (G : Good S) (h : S.ts[j]? = some t) : t.size = (rowsOf ws hs j).length := by
  rw [← (R.perm G h).length_eq, List.length_map, size_dats]
theorem Rows.top (R : Rows S ws hs) (G : Good S) {n : Nd} {l r : Tre} (h : S.ts[j]? = some (.nd n l r)) : (n.w, (n.i : Int)) ∈ rowsOf ws hs j ∧ ∀ q ∈ rowsOf ws hs j, SrtO.lexB q (n.w, (n.i : Int)) = false := by
  have p := R.perm G h
  refine ⟨p.mem_iff.mp (List.mem_map.mpr ⟨n.dat, by rw [dats_nd]; exact List.mem_cons_self, rfl⟩), fun q hq => ?_⟩
  obtain ⟨d, hd, rfl⟩ := List.mem_map.mp (p.mem_iff.mpr hq)
  refine SrtO.lexB_no.mpr ?_
  rcases HO_top (G.ho _ (get_mem h)) d hd with e | e
  · rw [e]
    show ¬ (n.w < n.w ∨ (n.w = n.w ∧ (n.i : Int) < (n.i : Int)))
    omega
  · unfold dlt at e
    show ¬ (d.w < n.w ∨ (d.w = n.w ∧ (d.i : Int) < (n.i : Int)))
    have e2 : n.w < d.w ∨ (n.w = d.w ∧ n.i < d.i) := e
    omega
theorem Rows.start : Rows ⟨[], [], 0⟩ [] [] := ⟨rfl, rfl, fun j t h => by simp at h, fun i j h => by simp at h⟩
theorem Rows.heap (R : Rows S ws hs) : Rows ⟨S.ts ++ [Tre.nil], S.ns, S.wk⟩ ws hs := by
  refine ⟨R.n1, R.n2, fun j t h d hd => ?_, fun i j h => ?_⟩
  · by_cases c : j < S.ts.length
    · rw [List.getElem?_append_left c] at h
      exact R.to j t h d hd
    · rw [List.getElem?_append_right (by omega)] at h
      have e := get_mem h
      rw [List.mem_singleton.mp e] at hd
      cases hd
  · obtain ⟨t, d, ht, r⟩ := R.of i j h
    exact ⟨t, d, by rw [List.getElem?_append_left (get_len ht)]; exact ht, r⟩
theorem Rows.put (R : Rows S ws hs) (h : S.ts[j]? = some s) (a : Addr) (w : Int) : Rows (S.put j a w) (ws ++ [w]) (hs ++ [some j]) := by
  unfold Fs.put
  rw [getD_of h]
  have mem : ∀ d, d ∈ dats (join s (leaf a S.ns.length w j)).1 ↔ d ∈ dats s ∨ d = ⟨a, S.ns.length, w, j⟩ := fun d => by
    rw [(joinD _ _).mem_iff, List.mem_append, leaf_dats, List.mem_singleton]
  have new1 : (ws ++ [w])[S.ns.length]? = some w := by rw [R.n1, List.getElem?_append_right (Nat.le_refl _), Nat.sub_self]; rfl
  have new2 : (hs ++ [some j])[S.ns.length]? = some (some j) := by rw [R.n1, ← R.n2, List.getElem?_append_right (Nat.le_refl _), Nat.sub_self]; rfl
  have old : ∀ {i : Nat} {v : Int} {k : Option Nat}, ws[i]? = some v ∧ hs[i]? = some k → (ws ++ [w])[i]? = some v ∧ (hs ++ [some j])[i]? = some k := fun h => by
    rw [List.getElem?_append_left (get_len h.1), List.getElem?_append_left (get_len h.2)]
    exact h
  refine ⟨?_, ?_, fun j' t' h' d hd => ?_, fun i j' h' => ?_⟩
  · show (S.ns ++ [_]).length = _
    rw [List.length_append, List.length_append, R.n1]
    rfl
  · rw [List.length_append, List.length_append, R.n2]
    rfl
  · rcases (idx_set h).mp h' with ⟨e1, e2⟩ | ⟨e1, e2⟩
    · rw [e1]
      rw [e2] at hd
      rcases (mem d).mp hd with z | z
      · exact old (R.to j s h d z)
      · rw [z]
        exact ⟨new1, new2⟩
    · exact old (R.to j' t' e2 d hd)
  · by_cases c : i < hs.length
    · rw [List.getElem?_append_left c] at h'
      obtain ⟨t, d, ht, hd, e⟩ := R.of i j' h'
      by_cases c2 : j' = j
      · subst c2
        rw [h] at ht
        cases ht
        exact ⟨_, d, (idx_set h).mpr (.inl ⟨rfl, rfl⟩), (mem d).mpr (.inl hd), e⟩
      · exact ⟨t, d, (idx_set h).mpr (.inr ⟨c2, ht⟩), hd, e⟩
    · rw [List.getElem?_append_right (by omega)] at h'
      have e := Option.some.inj (List.mem_singleton.mp (get_mem h'))
      have l := get_len h'
      rw [List.length_singleton] at l
      subst e
      exact ⟨_, ⟨a, S.ns.length, w, j'⟩, (idx_set h).mpr (.inl ⟨rfl, rfl⟩), (mem _).mpr (.inr rfl), by show S.ns.length = i; rw [R.n1, ← R.n2]; omega⟩
theorem Rows.take (R : Rows S ws hs) (G : Good S) {n : Nd} {l r : Tre} (h : S.ts[j]? = some (.nd n l r)) : Rows (S.take j n l r) ws (hs.set n.i none) := by
  unfold Fs.take
  have mem : ∀ d, d ∈ dats (join l r).1 ↔ d ∈ dats l ++ dats r := fun d => (joinD _ _).mem_iff
  have inn : ∀ d, d ∈ dats l ++ dats r → d ∈ dats (.nd n l r) := fun d hd => by rw [dats_nd]; exact List.mem_cons_of_mem _ hd
  have nI := G.ndI h
  rw [dats_nd, List.map_cons, List.nodup_cons] at nI
  have ntop : n.dat ∈ dats (.nd n l r) := by rw [dats_nd]; exact List.mem_cons_self
  refine ⟨?_, ?_, fun j' t' h' d hd => ?_, fun i j' h' => ?_⟩
  · show (S.ns.set n.i .non).length = _
    rw [List.length_set]
    exact R.n1
  · rw [List.length_set]
    exact R.n2
  · rcases (idx_set h).mp h' with ⟨e1, e2⟩ | ⟨e1, e2⟩
    · rw [e2] at hd
      have hd2 := (mem d).mp hd
      have q := R.to j _ h d (inn d hd2)
      have ne : n.i ≠ d.i := fun z => nI.1 (by rw [show n.dat.i = d.i from z]; exact List.mem_map_of_mem hd2)
      rw [e1, List.getElem?_set_ne ne]
      exact q
    · have q := R.to j' t' e2 d hd
      have ne : n.i ≠ d.i := fun z => e1 (G.one e2 h hd ntop z.symm).1
      rw [List.getElem?_set_ne ne]
      exact q
  · have ne : n.i ≠ i := fun z => by
      subst z
      have q : hs[n.i]? = some (some j) := (R.to j _ h n.dat ntop).2
      rw [List.getElem?_set_self (get_len q)] at h'
      cases h'
    rw [List.getElem?_set_ne ne] at h'
    obtain ⟨t, d, ht, hd, e⟩ := R.of i j' h'
    by_cases c2 : j' = j
    · subst c2
      rw [h] at ht
      cases ht
      rw [dats_nd] at hd
      rcases List.mem_cons.mp hd with z | z
      · rw [z] at e
        exact absurd e ne
      · exact ⟨_, d, (idx_set h).mpr (.inl ⟨rfl, rfl⟩), (mem d).mpr z, e⟩
    · exact ⟨t, d, (idx_set h).mpr (.inr ⟨c2, ht⟩), hd, e⟩
/-- all of heap o lies in heap j now -/
def moved (j o : Nat) (hs : List (Option Nat)) : List (Option Nat) := hs.map fun h => if h = some o then some j else h
theorem Rows.pour (R : Rows S ws hs) {o : Nat} {u : Tre} (h : S.ts[j]? = some s) (hu : S.ts[o]? = some u) (hne : j ≠ o) : Rows (S.pour j o) ws (moved j o hs) := by
  unfold Fs.pour
  rw [getD_of h, getD_of hu]
  have mem : ∀ d, d ∈ dats (join s (homed j u)).1 ↔ d ∈ dats s ∨ ∃ e ∈ dats u, d = { e with h := (j : Int) } := fun d => by
    rw [(joinD _ _).mem_iff, List.mem_append, homed_dats, List.mem_map]
    exact ⟨fun h => h.imp id fun ⟨e, he, q⟩ => ⟨e, he, q.symm⟩, fun h => h.imp id fun ⟨e, he, q⟩ => ⟨e, he, q.symm⟩⟩
  have hs1 : (S.ts.set o .nil)[j]? = some s := by
    rw [List.getElem?_set_ne (Ne.symm hne)]
    exact h
  have idx : ∀ (i : Nat) (v : Tre), ((S.ts.set o .nil).set j (join s (homed j u)).1)[i]? = some v ↔ (i = j ∧ v = (join s (homed j u)).1) ∨ (i ≠ j ∧ ((i = o ∧ v = .nil) ∨ (i ≠ o ∧ S.ts[i]? = some v))) := fun i v => by
    rw [idx_set hs1, idx_set hu]
  have hm : ∀ (i : Nat) (x : Option Nat), hs[i]? = some x → (moved j o hs)[i]? = some (if x = some o then some j else x) := fun i x e => by
    unfold moved
    rw [List.getElem?_map, e]
    rfl
  refine ⟨R.n1, by unfold moved; rw [List.length_map]; exact R.n2, fun j' t' h' d hd => ?_, fun i j' h' => ?_⟩
  · rcases (idx j' t').mp h' with ⟨e1, e2⟩ | ⟨e1, ⟨e2, e3⟩ | ⟨e2, e3⟩⟩
    · rw [e1]
      rw [e2] at hd
      rcases (mem d).mp hd with z | ⟨e, he, z⟩
      · have q := R.to j s h d z
        refine ⟨q.1, ?_⟩
        rw [hm _ _ q.2, if_neg fun z => hne (Option.some.inj z)]
      · have q := R.to o u hu e he
        rw [z]
        refine ⟨q.1, ?_⟩
        show (moved j o hs)[e.i]? = _
        rw [hm _ _ q.2, if_pos rfl]
    · rw [e3] at hd
      cases hd
    · have q := R.to j' t' e3 d hd
      refine ⟨q.1, ?_⟩
      rw [hm _ _ q.2, if_neg fun z => e2 (Option.some.inj z)]
  · unfold moved at h'
    rw [List.getElem?_map] at h'
    obtain ⟨x, hx, ex⟩ := Option.map_eq_some_iff.mp h'
    by_cases c : x = some o
    · rw [if_pos c] at ex
      have ej : j = j' := Option.some.inj ex
      subst ej
      rw [c] at hx
      obtain ⟨t, d, ht, hd, e⟩ := R.of i o hx
      rw [hu] at ht
      cases ht
      exact ⟨_, { d with h := (j : Int) }, (idx _ _).mpr (.inl ⟨rfl, rfl⟩), (mem _).mpr (.inr ⟨d, hd, rfl⟩), e⟩
    · rw [if_neg c] at ex
      subst ex
      obtain ⟨t, d, ht, hd, e⟩ := R.of i j' hx
      by_cases c2 : j' = j
      · subst c2
        rw [h] at ht
        cases ht
        exact ⟨_, d, (idx _ _).mpr (.inl ⟨rfl, rfl⟩), (mem _).mpr (.inl hd), e⟩
      · exact ⟨t, d, (idx _ _).mpr (.inr ⟨c2, .inr ⟨fun z => c (by rw [z]), ht⟩⟩), hd, e⟩
theorem Rows.sink (R : Rows S ws hs) (G : Good S) {n : Nd} {l r : Tre} {fs : List Up} {w : Int} (h : S.ts[j]? = some (plug (.nd n l r) fs)) : Rows (S.sink j n l r w fs) (ws.set n.i w) hs := by
  unfold Fs.sink
  have pm := sunk_dats n l r w fs
  have p0 := plug_dats fs (.nd n l r)
  have nI := (p0.map Dat.i).nodup_iff.mp (G.ndI h)
  rw [dats_nd, List.cons_append, List.map_cons, List.nodup_cons] at nI
  have ntop : n.dat ∈ dats (plug (.nd n l r) fs) := p0.mem_iff.mpr (List.mem_append_left _ (by rw [dats_nd]; exact List.mem_cons_self))
  have mem : ∀ d, d ∈ dats (sunk n l r w fs).1 ↔ d = ({ n with w := w } : Nd).dat ∨ d ∈ (dats l ++ dats r) ++ upDats fs := fun d => by
    rw [pm.mem_iff, dats_nd, List.cons_append, List.mem_cons]
  have mem0 : ∀ d, d ∈ dats (plug (.nd n l r) fs) ↔ d = n.dat ∨ d ∈ (dats l ++ dats r) ++ upDats fs := fun d => by
    rw [p0.mem_iff, dats_nd, List.cons_append, List.mem_cons]
  have qn : ws[n.i]? = some n.w ∧ hs[n.i]? = some (some j) := R.to j _ h n.dat ntop
  have hset : (ws.set n.i w)[n.i]? = some w := List.getElem?_set_self (get_len qn.1)
  refine ⟨by rw [List.length_set]; exact R.n1, by rw [List.length_set]; exact R.n2, fun j' t' h' d hd => ?_, fun i j' h' => ?_⟩
  · rcases (idx_set h).mp h' with ⟨e1, e2⟩ | ⟨e1, e2⟩
    · rw [e1]
      rw [e2] at hd
      rcases (mem d).mp hd with z | z
      · rw [z]
        exact ⟨hset, qn.2⟩
      · have q := R.to j _ h d ((mem0 d).mpr (.inr z))
        have ne : n.i ≠ d.i := fun q => nI.1 (by rw [show n.dat.i = d.i from q]; exact List.mem_map_of_mem z)
        rw [List.getElem?_set_ne ne]
        exact q
    · have q := R.to j' t' e2 d hd
      have ne : n.i ≠ d.i := fun z => e1 (G.one e2 h hd ntop z.symm).1
      rw [List.getElem?_set_ne ne]
      exact q
  · obtain ⟨t, d, ht, hd, e⟩ := R.of i j' h'
    by_cases c2 : j' = j
    · subst c2
      rw [h] at ht
      cases ht
      rcases (mem0 d).mp hd with z | z
      · exact ⟨_, ({ n with w := w } : Nd).dat, (idx_set h).mpr (.inl ⟨rfl, rfl⟩), (mem _).mpr (.inl rfl), by rw [← e, z]; rfl⟩
      · exact ⟨_, d, (idx_set h).mpr (.inl ⟨rfl, rfl⟩), (mem _).mpr (.inr z), e⟩
    · exact ⟨t, d, (idx_set h).mpr (.inr ⟨c2, ht⟩), hd, e⟩
/-- a thing as the rows tell it -/
theorem Rows.at (R : Rows S ws hs) {i : Nat} (h : hs[i]? = some (some j)) : ∃ t d, S.ts[j]? = some t ∧ d ∈ dats t ∧ d.i = i ∧ ws[i]? = some d.w := by
  obtain ⟨t, d, h1, h2, h3⟩ := R.of i j h
  exact ⟨t, d, h1, h2, h3, by rw [← h3]; exact (R.to j t h1 d h2).1⟩
/-- a thing that is gone, or was never there -/
theorem Rows.gone (R : Rows S ws hs) (G : Good S) {i : Nat} (h : ∀ j, hs[i]? ≠ some (some j)) : ∀ a, S.ns[i]? ≠ some (.ref a) := fun a e => by
  obtain ⟨j, t, d, h1, h2, h3, _⟩ := G.back i a e
  have q := (R.to j t h1 d h2).2
  rw [h3] at q
  exact h j q
end
/-- a home as the law's list tells it -/
def hV : Option Nat → V
  | none => .non
  | some j => .int (j : Int)
theorem hV_at {hs : List (Option Nat)} {i : Nat} {x : Option Nat} (h : hs[i]? = some x) : (hs.map hV)[i]? = some (hV x) := by
  rw [List.getElem?_map, h]
  rfl
theorem int_at {ws : List Int} {i : Nat} {w : Int} (h : ws[i]? = some w) : (ws.map V.int)[i]? = some (V.int w) := by
  rw [List.getElem?_map, h]
  rfl
theorem Rows.there {S : Fs} {ws : List Int} {hs : List (Option Nat)} (R : Rows S ws hs) (G : Good S) {i j : Nat} (h : hs[i]? = some (some j)) : ∃ a, S.ns[i]? = some (.ref a) := by
  obtain ⟨t, d, h1, h2, h3⟩ := R.of i j h
  exact ⟨d.a, by rw [← h3]; exact (G.home j t h1 d h2).2⟩
/-- a thing, with all that is told of it -/
theorem Rows.one {S : Fs} {ws : List Int} {hs : List (Option Nat)} (R : Rows S ws hs) (G : Good S) {i j j' : Nat} {t : Tre} {d : Dat} (h : hs[i]? = some (some j)) (ht : S.ts[j']? = some t) (hd : d ∈ dats t) (e : d.i = i) : ws[i]? = some d.w ∧ d.h = (j : Int) ∧ j' = j := by
  obtain ⟨t2, d2, h1, h2, h3⟩ := R.of i j h
  obtain ⟨e1, e2, e3⟩ := G.one ht h1 hd h2 (e.trans h3.symm)
  have q := R.to j' t ht d hd
  rw [e] at q
  exact ⟨q.1, by rw [← e1]; exact (G.home j' t ht d hd).1, e1⟩
theorem nat_log {i : Nat} (h : i < 100000) : ((i : Int)).natAbs.log2 < 1920 := by
  have e : ((i : Int)).natAbs = i := Int.natAbs_natCast i
  rw [e]
  exact Nat.lt_of_le_of_lt (log2_mono (Nat.le_of_lt h)) (by decide)
/-! ### new objects handed over; pairs in memory -/
/-- what was known, with all that is new -/
def grow (H0 H H' : Hp) : Hp := fun b => match H b with
  | none => H' b
  | some _ => H0 b
theorem grow_new {H0 H H' : Hp} {b : Addr} (h : H b = none) : grow H0 H H' b = H' b := by
  unfold grow
  rw [h]
theorem grow_old {H0 H H' : Hp} {b : Addr} {o : HO} (h : H b = some o) : grow H0 H H' b = H0 b := by
  unfold grow
  rw [h]
theorem grow_same {H0 H H' : Hp} (s : Same H0 H) : Same H0 (grow H0 H H') := fun b o hb => by
  rw [grow_old (s b o hb)]
  exact hb
theorem Fd.grow {C D : Addr} {H0 H H' : Hp} {p : Addr} {S : Fs} (F : Fd C D H0 H p S) (sm : Same H H') : Fd C D (grow H0 H H') H' p S := by
  obtain ⟨G, dx, lt, ln, A⟩ := F
  refine ⟨G, dx, lt, ln, fun b o hb => ?_, (grow_old A.ob).trans A.p0, (grow_old A.lts).trans A.t0, (grow_old A.lns).trans A.n0, sm _ _ A.ob, sm _ _ A.lts, sm _ _ A.lns, A.ne, fun t ht => ⟨(A.tr t ht).1.same sm, fun b hb => ?_⟩⟩
  · cases e : H b with
    | none =>
      rw [grow_new e] at hb
      exact hb
    | some u =>
      rw [grow_old e] at hb
      exact sm _ _ (A.same _ _ hb)
  · obtain ⟨dd, fs, e⟩ := (A.tr t ht).1.there b hb
    rw [grow_old e]
    exact (A.tr t ht).2 b hb
theorem sql_same {K : PySem.W.Frag} {H H' : Hp} {a : Addr} {xs : List V} (h : SqL K H a xs) (s : Same H H') : SqL K H' a xs :=
  h.elim (fun h => .inl (h.elim (fun h => .inl (s _ _ h)) fun ⟨o, h⟩ => .inr ⟨o, s _ _ h⟩)) .inr
/-- the list at D holds new tuples of these pairs -/
structure PairsAt (H : Hp) (D : Addr) (as : List Addr) (ps : List (Int × Int)) : Prop where
  lst : H D = some (.lst (as.map V.ref))
  len : as.length = ps.length
  row : ∀ (k : Nat) (a : Addr), as[k]? = some a → ∃ q, ps[k]? = some q ∧ H a = some (.tup [.int q.1, .int q.2])
theorem PairsAt.same {H H' : Hp} {D : Addr} {as : List Addr} {ps : List (Int × Int)} (h : PairsAt H D as ps) (s : Same H H') : PairsAt H' D as ps :=
  ⟨s _ _ h.lst, h.len, fun k a e => let ⟨q, h1, h2⟩ := h.row k a e; ⟨q, h1, s _ _ h2⟩⟩
/-- a pair as it stands -/
def pairK (H : Hp) : V → Int × Int
  | .ref a => match H a with
    | some (.tup [.int x, .int y]) => (x, y)
    | _ => (0, 0)
  | _ => (0, 0)
theorem pairK_of {H : Hp} {a : Addr} {q : Int × Int} (h : H a = some (.tup [.int q.1, .int q.2])) : pairK H (.ref a) = q := by
  show (match H a with | some (.tup [.int x, .int y]) => (x, y) | _ => (0, 0)) = q
  rw [h]
theorem PairsAt.pairs {H : Hp} {D : Addr} {as : List Addr} {ps : List (Int × Int)} (h : PairsAt H D as ps) : (∀ x ∈ as.map V.ref, PairV H (pairK H) x) ∧ (as.map V.ref).map (pairK H) = ps := by
  refine ⟨fun x hx => ?_, List.ext_getElem? fun k => ?_⟩
  · obtain ⟨a, ha, rfl⟩ := List.mem_map.mp hx
    obtain ⟨k, hk⟩ := List.mem_iff_getElem?.mp ha
    obtain ⟨q, _, h2⟩ := h.row k a hk
    exact ⟨a, rfl, by rw [pairK_of h2]; exact h2⟩
  · rw [List.map_map, List.getElem?_map]
    cases e : as[k]? with
    | none =>
      have : as.length ≤ k := List.getElem?_eq_none_iff.mp e
      rw [List.getElem?_eq_none_iff.mpr (by rw [← h.len]; exact this)]
      rfl
    | some a =>
      obtain ⟨q, h1, h2⟩ := h.row k a e
      rw [h1]
      exact congrArg some (pairK_of h2)
/-- one more pair -/
theorem PairsAt.snoc {H : Hp} {D a : Addr} {as : List Addr} {ps : List (Int × Int)} {q : Int × Int} (h : PairsAt H D as ps) (ha : H a = some (.tup [.int q.1, .int q.2])) : PairsAt (upd H D (.lst (as.map V.ref ++ [.ref a]))) D (as ++ [a]) (ps ++ [q]) := by
  have nD : ∀ b x, H b = some (.tup x) → b ≠ D := fun b x e z => by
    rw [z, h.lst] at e
    cases e
  refine ⟨by rw [upd_same, List.map_append]; rfl, by rw [List.length_append, List.length_append, h.len]; rfl, fun k b hb => ?_⟩
  by_cases c : k < as.length
  · rw [List.getElem?_append_left c] at hb
    obtain ⟨q', h1, h2⟩ := h.row k b hb
    exact ⟨q', by rw [List.getElem?_append_left (by rw [← h.len]; exact c)]; exact h1, by rw [upd_ne (nD _ _ h2)]; exact h2⟩
  · have hk := get_len hb
    rw [List.length_append, List.length_singleton] at hk
    have ek : k = as.length := by omega
    rw [ek, List.getElem?_append_right (Nat.le_refl _), Nat.sub_self] at hb
    have eb : b = a := (Option.some.inj hb).symm
    refine ⟨q, by rw [ek, h.len, List.getElem?_append_right (Nat.le_refl _), Nat.sub_self]; rfl, ?_⟩
    rw [eb, upd_ne (nD _ _ ha)]
    exact ha
/-- two pairs, neither lesser -/
theorem lexB_eq {p q : Int × Int} (h1 : SrtO.lexB p q = false) (h2 : SrtO.lexB q p = false) : p = q := by
  have a := SrtO.lexB_no.mp h1
  have b := SrtO.lexB_no.mp h2
  exact Prod.ext (by omega) (by omega)
/-- min of the pairs of a heap: its top -/
theorem min_top {K : PySem.W.Frag} {H : Hp} {Q : VK} {D : Addr} {as : List Addr} {ps : List (Int × Int)} (h : PairsAt H D as ps) {q : Int × Int} (hq : q ∈ ps) (hl : ∀ p ∈ ps, SrtO.lexB p q = false) (k : ∀ a, H a = some (.tup [.int q.1, .int q.2]) → Q (.ref a) H) : rMinP K [.ref D] H Q := by
  obtain ⟨h1, h2⟩ := h.pairs
  refine ⟨D, as.map V.ref, pairK H, rfl, SqL.of h.lst, fun e => ?_, h1, fun m hm hmin => ?_⟩
  · rw [← h2, e] at hq
    cases hq
  · obtain ⟨a, rfl, ha⟩ := h1 m hm
    have e1 : pairK H (.ref a) = q := by
      refine lexB_eq (hl _ (by rw [← h2]; exact List.mem_map_of_mem hm)) ?_
      rw [← h2] at hq
      obtain ⟨y, hy, e⟩ := List.mem_map.mp hq
      rw [← e]
      exact hmin y hy
    rw [e1] at ha
    exact k a ha
theorem cut_all {xs : List V} {n : Nat} (h : xs.length ≤ n) : cutV xs none (some (n : Int)) = xs := by
  unfold cutV
  rw [HT.sIx_none, HT.sIx_nat, List.drop_zero, Nat.sub_zero, Nat.min_eq_right h, List.take_length]
/-- the least of the row that is left stands at the top -/
theorem Good.topq {S : Fs} (G : Good S) {j : Nat} {t : Tre} (h : S.ts[j]? = some t) {q : Int × Int} {qs : List (Int × Int)} (p : ((dats t).map datP).Perm (q :: qs)) (hl : ∀ x ∈ qs, SrtO.lexB x q = false) :
    ∃ n l r, t = .nd n l r ∧ q = (n.w, (n.i : Int)) ∧ ((dats (join l r).1).map datP).Perm qs := by
  cases t with
  | nil => exact absurd p.length_eq (by show ¬ 0 = qs.length + 1; omega)
  | nd n l r =>
    have top : ∀ x ∈ (dats (.nd n l r)).map datP, SrtO.lexB x (n.w, (n.i : Int)) = false := fun x hx => by
      obtain ⟨d, hd, rfl⟩ := List.mem_map.mp hx
      refine SrtO.lexB_no.mpr ?_
      rcases HO_top (G.ho _ (get_mem h)) d hd with e | e
      · rw [e]
        show ¬ (n.w < n.w ∨ (n.w = n.w ∧ (n.i : Int) < (n.i : Int)))
        omega
      · show ¬ (d.w < n.w ∨ (d.w = n.w ∧ (d.i : Int) < (n.i : Int)))
        have e2 : n.w < d.w ∨ (n.w = d.w ∧ n.i < d.i) := e
        omega
    have hin : (n.w, (n.i : Int)) ∈ q :: qs := p.mem_iff.mp (List.mem_map.mpr ⟨n.dat, by rw [dats_nd]; exact List.mem_cons_self, rfl⟩)
    have e : q = (n.w, (n.i : Int)) := by
      refine lexB_eq (top q (p.mem_iff.mpr List.mem_cons_self)) ?_
      rcases List.mem_cons.mp hin with z | z
      · rw [← z]
        exact SrtO.lexB_no.mpr (by omega)
      · exact hl _ z
    refine ⟨n, l, r, rfl, e, ?_⟩
    rw [dats_nd, List.map_cons, e] at p
    exact ((joinD l r).map datP).trans p.cons_inv
theorem dats_none {t : Tre} (p : ((dats t).map datP).Perm []) : t = .nil := by
  cases t with
  | nil => rfl
  | nd n l r => exact absurd p.length_eq (by rw [dats_nd]; simp)
theorem eqv_pair (a b : Int) : PyData.eqv (.tuple [.int a, .int b]) (.tuple [.int a, .int b]) = true := by
  simp [PyData.eqv, PyData.eqvAll]
theorem Dp.pair {K : PySem.W.Frag} {H : Hp} {p : Addr} {a b : Int} (h : H p = some (.tup [.int a, .int b])) : Dp K H (.ref p) (.tuple [.int a, .int b]) := .tup (SqT.of h) (.cons (.int a) (.cons (.int b) .nil))
theorem Dp.none {K : PySem.W.Frag} {H : Hp} {p : Addr} (h : H p = some (.lst [])) : Dp K H (.ref p) (.list []) := .lst (SqL.of h) .nil
theorem PairsAt.app {H : Hp} {D X a : Addr} {as : List Addr} {ps : List (Int × Int)} {q : Int × Int} (h : PairsAt H D as ps) (ha : H a = some (.tup [.int q.1, .int q.2])) (hX : H X = some (.lst (as.map V.ref ++ [.ref a]))) : PairsAt H X (as ++ [a]) (ps ++ [q]) := by
  refine ⟨by rw [hX, List.map_append]; rfl, by rw [List.length_append, List.length_append, h.len]; rfl, fun k b hb => ?_⟩
  by_cases c : k < as.length
  · rw [List.getElem?_append_left c] at hb
    obtain ⟨q', h1, h2⟩ := h.row k b hb
    exact ⟨q', by rw [List.getElem?_append_left (by rw [← h.len]; exact c)]; exact h1, h2⟩
  · have hk := get_len hb
    rw [List.length_append, List.length_singleton] at hk
    have ek : k = as.length := by omega
    rw [ek, List.getElem?_append_right (Nat.le_refl _), Nat.sub_self] at hb
    have eb : b = a := (Option.some.inj hb).symm
    exact ⟨q, by rw [ek, h.len, List.getElem?_append_right (Nat.le_refl _), Nat.sub_self]; rfl, by rw [eb]; exact ha⟩
theorem PairsAt.one {H : Hp} {X a : Addr} {q : Int × Int} (ha : H a = some (.tup [.int q.1, .int q.2])) (hX : H X = some (.lst [.ref a])) : PairsAt H X [a] [q] :=
  ⟨hX, rfl, fun k b hb => by
    match k, hb with
    | 0, hb => exact ⟨q, rfl, by rw [← Option.some.inj hb]; exact ha⟩
    | k + 1, hb => simp at hb⟩
theorem cut_from {xs : List V} {n : Nat} : cutV xs (some (n : Int)) none = xs.drop n := by
  unfold cutV
  rw [HT.sIx_none, HT.sIx_nat]
  by_cases c : n ≤ xs.length
  · rw [Nat.min_eq_left c, List.take_of_length_le]
    rw [List.length_drop]
    exact Nat.le_refl _
  · rw [Nat.min_eq_right (by omega), Nat.sub_self, List.take_zero, List.drop_eq_nil_of_le (by omega)]
theorem Good.least {S : Fs} (G : Good S) {j : Nat} {n : Nd} {l r : Tre} (h : S.ts[j]? = some (.nd n l r)) {ps : List (Int × Int)} (p : ((dats (.nd n l r)).map datP).Perm ps) : (n.w, (n.i : Int)) ∈ ps ∧ ∀ q ∈ ps, SrtO.lexB q (n.w, (n.i : Int)) = false := by
  refine ⟨p.mem_iff.mp (List.mem_map.mpr ⟨n.dat, by rw [dats_nd]; exact List.mem_cons_self, rfl⟩), fun q hq => ?_⟩
  obtain ⟨d, hd, rfl⟩ := List.mem_map.mp (p.mem_iff.mpr hq)
  refine SrtO.lexB_no.mpr ?_
  rcases HO_top (G.ho _ (get_mem h)) d hd with e | e
  · rw [e]
    show ¬ (n.w < n.w ∨ (n.w = n.w ∧ (n.i : Int) < (n.i : Int)))
    omega
  · show ¬ (d.w < n.w ∨ (d.w = n.w ∧ (d.i : Int) < (n.i : Int)))
    have e2 : n.w < d.w ∨ (n.w = d.w ∧ n.i < d.i) := e
    omega
/-- a list of new pairs, handed over -/
theorem PairsAt.grow {H0 H H' : Hp} {D : Addr} {as : List Addr} {ps : List (Int × Int)} (h : PairsAt H' D as ps) (hD : H D = none) (hf : ∀ a ∈ as, H a = none) : PairsAt (Sp.grow H0 H H') D as ps :=
  ⟨(grow_new hD).trans h.lst, h.len, fun k a e => let ⟨q, h1, h2⟩ := h.row k a e; ⟨q, h1, (grow_new (hf a (get_mem e))).trans h2⟩⟩
theorem cut_take {xs : List V} {n : Nat} : cutV xs none (some (n : Int)) = xs.take n := by
  unfold cutV
  rw [HT.sIx_none, HT.sIx_nat, List.drop_zero, Nat.sub_zero]
  by_cases c : n ≤ xs.length
  · rw [Nat.min_eq_left c]
  · rw [Nat.min_eq_right (by omega), List.take_length, List.take_of_length_le (by omega)]
/-! ### the field's methods -/
section
variable {P : Program} {w : World} {K : PySem.W.Frag} {mg : Str → Option Value} {base : Heap}
def sp_Field_init (C D : Addr) : Sp := fun vs H Q _ => ∃ (H0 : Hp) (p dx : Addr), vs = [.ref p] ∧ H p = some (.ins D dx []) ∧ Same H0 H ∧ H0 p = none ∧ ∀ H', Fd C D H0 H' p ⟨[], [], 0⟩ → Q .non H'
theorem ok_Field_init (T : Txt K mg) : FnOk P w K mg base CX0 1 T.a_Field_init T.d_Field_init ["self"] (sp_Field_init T.c_Node T.c_Field) := by
  refine T.F_Field_init.ok sc_Field_init (fun vs H Q E h => ?_) (fun cdv A outer s H vs Q E hr h => ?_)
  · obtain ⟨H0, p, dx, rfl, _⟩ := h
    rfl
  · obtain ⟨H0, p, dx, rfl, hp, sm, p0, k⟩ := h
    refine ⟨_, (pss_cons (ps_fld (pv 0) (pe_lst pa_nil) rfl)
  (pss_cons (ps_fld (pv 0) (pe_lst pa_nil) rfl)
  (pss_one (ps_fld (pv 0) pe_int rfl)))), ?_⟩
    refine ⟨Nat.zero_le _, fun lt hlt => ?_⟩
    have n1 : p ≠ lt := ne_of_none hp hlt
    refine ⟨_, rfl, p, T.c_Field, dx, [], rfl, (by rw [upd_ne n1]; exact hp), T.cl_Field, T.n_Field_tops, (by show 0 < 1000; decide), ?_⟩
    refine ⟨Nat.zero_le _, fun ln hln => ?_⟩
    have n2 : p ≠ ln := fun e => by
      rw [← e, upd_same] at hln
      cases hln
    have n3 : lt ≠ ln := fun e => by
      rw [← e, upd_ne n1.symm, upd_same] at hln
      cases hln
    have hln0 : H ln = none := by
      rw [upd_ne n2.symm, upd_ne n3.symm] at hln
      exact hln
    refine ⟨_, rfl, p, T.c_Field, dx, _, rfl, (by rw [upd_ne n2, upd_same]), T.cl_Field, T.n_Field_nodes, (by rw [pf_nil]; show 1 < 1000; decide), ?_⟩
    refine ⟨_, rfl, p, T.c_Field, dx, _, rfl, upd_same, T.cl_Field, T.n_Field_work, (by rw [pf_nil]; show (putF ("_nodes" : Str) _ _).length < 1000; exact Nat.lt_of_le_of_lt (length_putF _ _ _) (by show 2 < 1000; decide)), ?_⟩
    refine k _ ⟨Good.start, dx, lt, ln, fun b o hb => ?_, p0, sm.free hlt, sm.free hln0, ?_, ?_, ?_, n3, fun t ht => by cases ht⟩
    · have hb2 := sm b o hb
      have c1 : b ≠ p := fun e => by
        rw [e, p0] at hb
        cases hb
      rw [upd_ne c1, upd_ne c1, upd_ne (ne_of_none hb2 hln0), upd_ne c1, upd_ne (ne_of_none hb2 hlt)]
      exact hb2
    · rw [upd_same]
      exact congrArg (fun q => some (HO.ins T.c_Field dx q)) ff_new
    · rw [upd_ne n1.symm, upd_ne n1.symm, upd_ne n3, upd_ne n1.symm, upd_same]
      rfl
    · rw [upd_ne n2.symm, upd_ne n2.symm, upd_same]
/-- heap() -/
def sp_Field_heap (C D : Addr) : Sp := fun vs H Q _ => ∃ (H0 : Hp) (p : Addr) (S : Fs), vs = [.ref p] ∧ Fd C D H0 H p S ∧ S.ts.length ≤ 100000 - 1 ∧ ∀ H', Fd C D H0 H' p ⟨S.ts ++ [.nil], S.ns, S.wk⟩ → Q (.int (S.ts.length : Int)) H'
theorem ok_Field_heap (T : Txt K mg) : FnOk P w K mg base CX0 1 T.a_Field_heap T.d_Field_heap ["self"] (sp_Field_heap T.c_Node T.c_Field) := by
  refine T.F_Field_heap.ok sc_Field_heap (fun vs H Q E h => ?_) (fun cdv A outer s H vs Q E hr h => ?_)
  · obtain ⟨H0, p, S, rfl, _⟩ := h
    rfl
  · obtain ⟨H0, p, S, rfl, ⟨G, dx, lt, ln, F⟩, hlen, k⟩ := h
    refine ⟨_, (pss_cons (ps_expr (pe_bm PySem.F.plainAttrs_list PySem.F.slot_list_append PySem.F.type_list_append mt_append (pe_fld (pv 0) rfl) (pa_cons pe_non pa_nil)))
  (pss_one (ps_ret (pe_op op_sub (pe_callB call_len_seq (by rfl) T.z_len PySem.boot_len (pa_cons (pe_fld (pv 0) rfl) pa_nil)) pe_int)))), ?_⟩
    refine ⟨_, rfl, p, T.c_Field, dx, _, _, rfl, F.ob, T.cl_Field, T.n_Field_tops, ff_tops, .inl ⟨rfl, _, SqL.of F.lts⟩, lt, _, _, rfl, rfl, F.lts, (by rw [List.length_map]; exact Evl.sz_lt (by omega)), ?_⟩
    have n1 := F.pt
    have f : Frame [lt] H (upd H lt (.lst (S.ts.map ref ++ [.non]))) := Frame.wr (List.mem_singleton.mpr rfl)
    have e1 : (upd H lt (.lst (S.ts.map ref ++ [.non]))) p = some (.ins T.c_Field dx (ff lt ln S.wk)) := by
      rw [upd_ne n1.1]
      exact F.ob
    refine ⟨_, rfl, p, T.c_Field, dx, _, _, rfl, e1, T.cl_Field, T.n_Field_tops, ff_tops, lt, _, rfl, .inl (SqL.of upd_same), _, _, rfl, rfl, ?_⟩
    have F' : Fd T.c_Node T.c_Field H0 (upd H lt (.lst (S.ts.map ref ++ [.non]))) p ⟨S.ts ++ [.nil], S.ns, S.wk⟩ := by
      refine ⟨G.heap, dx, lt, ln, fun b o hb => ?_, F.p0, F.t0, F.n0, e1, ?_, ?_, F.ne, fun t ht => ?_⟩
      · rw [upd_ne (fun e => by rw [e, F.t0] at hb; cases hb)]
        exact F.same b o hb
      · rw [upd_same]
        show _ = some (HO.lst ((S.ts ++ [Tre.nil]).map ref))
        rw [List.map_append]
        rfl
      · rw [upd_ne F.ne.symm]
        exact F.lns
      · rcases List.mem_append.mp ht with z | z
        · have q := F.tr t z
          exact ⟨q.1.keep f fun b hb y => (F.apart q.1).2.1 (by rw [← List.mem_singleton.mp y]; exact hb), q.2⟩
        · rw [List.mem_singleton.mp z]
          exact ⟨trivial, fun b hb => by cases hb⟩
    have q := k _ F'
    have e2 : (((S.ts.map ref ++ [.non] : List V).length : Int) - 1) = (S.ts.length : Int) := by
      rw [List.length_append, List.length_map, List.length_singleton]
      omega
    rw [← e2] at q
    exact q
/-- _check_heap(heap) -/
def sp_check (C D eN : Addr) : Sp := fun vs H Q E => ∃ (H0 : Hp) (p dx lt ln : Addr) (S : Fs) (h : Int), vs = [.ref p, .int h] ∧ FAt C D H0 H p dx lt ln S ∧ (0 ≤ h → h < (S.ts.length : Int) → Q .non H) ∧ (¬ (0 ≤ h ∧ h < (S.ts.length : Int)) → h.natAbs.log2 < 1920 ∧ E (.ref eN) none H)
theorem ok_check (T : Txt K mg) : FnOk P w K mg base (L2.CX P w) 1 T.a_Field_check_heap T.d_Field_check_heap ["self", "heap"] (sp_check T.c_Node T.c_Field T.e_NoHeap) := by
  refine T.F_Field_check_heap.okX sc_Field_check_heap (fun vs H Q E h => ?_) (fun cdv A outer s H vs Q E hr h => ?_)
  · obtain ⟨H0, p, dx, lt, ln, S, h, rfl, _⟩ := h
    rfl
  · obtain ⟨H0, p, dx, lt, ln, S, h, rfl, F, k1, k2⟩ := h
    refine ⟨_, (pss_one (ps_if (pt_not (pt_chain op_le op_lt pe_int (pv 1) (pe_callB call_len_seq (by rfl) T.z_len PySem.boot_len (pa_cons (pe_fld (pv 0) rfl) pa_nil))))
  (pss_one (ps_raise rfl (takes_of rfl rfl rfl rfl) (pmk_ownA PySem.F.excBase_ValueError T.xNoHeap T.gNoHeap T.kNoHeap (raises_own T.bNoHeap T.tNoHeap) rfl (pa_cons (pe_joined (.cons pe_str (.cons (pe_fmt (pv 1)) .nil))) pa_nil))))
  pss_nil)), ?_⟩
    have bad : ¬ (0 ≤ h ∧ h < (S.ts.length : Int)) → (tCons (fun σ H Q => tJs [tC (.str "there is no heap "), tFmt (tVar 1)] Str.empty σ H fun out H1 => Q (.str out) H1) tNil) (start N_Field_check_heap [.ref p, .int h]) H (fun vs H1 => vs.length ≤ sizeLine ∧ E (.ref T.e_NoHeap) none H1) := fun hb => by
      obtain ⟨hl, e⟩ := k2 hb
      have w1 : (Str.empty ++ ("there is no heap " : Str)).length ≤ 17 := by decide +kernel
      exact ⟨_, rfl, fits (Nat.le_trans w1 (by decide)), _, rfl, .inr ⟨h, rfl, hl, _, rfl, fits (Nat.le_trans (app_fits w1 (txt_len hl)) (by decide)), (by show 1 ≤ sizeLine; decide), e⟩⟩
    refine ⟨_, rfl, _, _, rfl, rfl, _, rfl, t_2 (fun c => ?_) (fun c => ?_)⟩
    · refine ⟨_, rfl, p, T.c_Field, dx, _, _, rfl, F.ob, T.cl_Field, T.n_Field_tops, ff_tops, lt, _, rfl, .inl (SqL.of F.lts), _, _, rfl, rfl, _, rfl, ?_⟩
      by_cases c2 : h < (S.ts.length : Int)
      · exact n_yes (by rw [List.length_map]; exact c2) (k1 c c2)
      · exact n_no (by rw [List.length_map]; exact c2) (bad fun z => c2 z.2)
    · exact ⟨_, rfl, iteT (bad fun z => c z.1)⟩
/-- _plant(heap, one, other) -/
def sp_plant (C D : Addr) : Sp := fun vs H Q _ => ∃ (p dx lt ln : Addr) (wk : Int) (ls : List V) (j : Nat) (s t : Tre) (x y : V), vs = [.ref p, .int (j : Int), ref s, ref t] ∧ H p = some (.ins D dx (ff lt ln wk)) ∧ H lt = some (.lst ls) ∧ j < ls.length ∧ TAt C H s x ∧ TAt C H t y ∧ (Tre.addrs s ++ Tre.addrs t).Nodup ∧ s.spine + t.spine ≤ 20 ∧
  ∀ H', TAt C H' (join s t).1 .non → H' lt = some (.lst (ls.set j (ref (join s t).1))) → Frame (lt :: (Tre.addrs s ++ Tre.addrs t)) H H' → Q (.int ((join s t).2 : Int)) H'
theorem ok_plant (T : Txt K mg) : FnOk P w K mg base CX0 25 T.a_Field_plant T.d_Field_plant ["self", "heap", "one", "other"] (sp_plant T.c_Node T.c_Field) := by
  have G_joined : FnOk P w K mg base CX0 24 _ _ _ _ := ok_joined T 20
  refine T.F_Field_plant.ok sc_Field_plant (fun vs H Q E h => ?_) (fun cdv A outer s H vs Q E hr h => ?_)
  · obtain ⟨p, dx, lt, ln, wk, ls, j, s, t, x, y, rfl, _⟩ := h
    rfl
  · obtain ⟨p, dx, lt, ln, wk, ls, j, s, t, x, y, rfl, hp, hlt, hj, hs, ht, hN, hd, k⟩ := h
    refine ⟨_, (pss_cons (ps_asg (pe_call G_joined hr rfl T.g_joined T.F_joined.kp T.b_joined .nil pass0 (pa_cons (pv 2) (pa_cons (pv 3) pa_nil))) (pg_tup (by rfl) (pgs_cons (pg_name (i := 4) sc_Field_plant.nd rfl (.inl rfl)) (pgs_cons (pg_name (i := 5) sc_Field_plant.nd rfl (.inl rfl)) pgs_nil))))
  (pss_cons (ps_asg (pv 4) (pg_sub (pe_fld (pv 0) rfl) (pv 1) set_list))
  (pss_one (ps_ret (pv 5))))), ?_⟩
    refine ⟨_, rfl, _, rfl, s, t, x, y, rfl, hs, ht, hN, hd, fun H1 u h1 hu hu1 f1 => ?_⟩
    refine ⟨u, _, rfl, SqT.of hu1, rfl, _, _, rfl, _, _, rfl, rfl, ?_⟩
    have np : ∀ {t : Tre} {x : V}, TAt T.c_Node H t x → p ∉ Tre.addrs t ∧ lt ∉ Tre.addrs t := fun h => by
      refine ⟨fun z => ?_, fun z => ?_⟩
      · obtain ⟨d, i, w, hh, x, l, r, k, e⟩ := h.nfs p z
        rw [hp] at e
        exact ff_ne_nf (Option.some.inj e)
      · obtain ⟨d, i, w, hh, x, l, r, k, e⟩ := h.nfs lt z
        rw [hlt] at e
        cases e
    have p1 : H1 p = some (.ins T.c_Field dx (ff lt ln wk)) := f1 _ _ hp fun z => (List.mem_append.mp z).elim (np hs).1 (np ht).1
    have l1 : H1 lt = some (.lst ls) := f1 _ _ hlt fun z => (List.mem_append.mp z).elim (np hs).2 (np ht).2
    refine ⟨_, rfl, _, rfl, p, T.c_Field, dx, _, _, rfl, p1, T.cl_Field, T.n_Field_tops, ff_tops, _, rfl, lt, _, _, j, rfl, rfl, l1, Evl.ixN_nat hj, ?_⟩
    refine ⟨_, rfl, ?_⟩
    have fr : Frame [lt] H1 (upd H1 lt (.lst (ls.set j (ref (join s t).1)))) := Frame.wr (List.mem_singleton.mpr rfl)
    refine k _ (h1.keep fr fun b hb z => ?_) upd_same ((f1.mono fun b hb => List.mem_cons_of_mem _ hb).trans (fr.mono fun b hb => by rw [List.mem_singleton.mp hb]; exact List.mem_cons_self))
    have hb2 := (join_addrs s t).mem_iff.mp hb
    rw [List.mem_singleton.mp z] at hb2
    exact (List.mem_append.mp hb2).elim (np hs).2 (np ht).2
/-- put(heap, weight) -/
def sp_put (C D eN : Addr) : Sp := fun vs H Q E => ∃ (H0 : Hp) (p : Addr) (S : Fs) (h w : Int), vs = [.ref p, .int h, .int w] ∧ Fd C D H0 H p S ∧ S.ns.length < 1000 ∧
  (∀ j : Nat, h = (j : Int) → j < S.ts.length → ∀ H' a, a ∉ S.ts.flatMap Tre.addrs → Fd C D H0 H' p (S.put j a w) → Q (.int (S.ns.length : Int)) H') ∧ (¬ (0 ≤ h ∧ h < (S.ts.length : Int)) → h.natAbs.log2 < 1920 ∧ E (.ref eN) none H)
theorem ok_put (T : Txt K mg) : FnOk P w K mg base (L2.CX P w) 26 T.a_Field_put T.d_Field_put ["self", "heap", "weight"] (sp_put T.c_Node T.c_Field T.e_NoHeap) := by
  have G_Field_check_heap : FnOk P w K mg base (L2.CX P w) 25 _ _ _ _ := (ok_check T).mono (by decide)
  have G_Node_init : FnOk P w K mg base CX0 24 _ _ _ _ := (ok_Node_init T).mono (by decide)
  have G_Field_plant : FnOk P w K mg base CX0 25 _ _ _ _ := ok_plant T
  refine T.F_Field_put.okX sc_Field_put (fun vs H Q E h => ?_) (fun cdv A outer s H vs Q E hr h => ?_)
  · obtain ⟨H0, p, S, h, w, rfl, _⟩ := h
    rfl
  · obtain ⟨H0, p, S, h, w, rfl, ⟨G, dx, lt, ln, F⟩, hlen, k1, k2⟩ := h
    refine ⟨_, (pss_cons (ps_expr (pe_meth (pv 0) T.cl_Field T.m_Field_check_heap G_Field_check_heap hr T.b_Field_check_heap .nil (E := E) (passes_call (takes_of rfl rfl rfl rfl) (fun _ _ _ _ h => h)) (pa_cons (pv 1) pa_nil)))
  (pss_cons (ps_set (i := 3) sc_Field_put.nd rfl (.inl rfl) (pe_make T.mk_Node G_Node_init hr rfl T.gC_Node T.b_Node_init .nil pass0 (pa_cons (pe_callB call_len_seq (by rfl) T.z_len PySem.boot_len (pa_cons (pe_fld (pv 0) rfl) pa_nil)) (pa_cons (pv 2) (pa_cons (pv 1) pa_nil)))))
  (pss_cons (ps_expr (pe_bm PySem.F.plainAttrs_list PySem.F.slot_list_append PySem.F.type_list_append mt_append (pe_fld (pv 0) rfl) (pa_cons (pv 3) pa_nil)))
  (pss_cons (ps_fld (pv 0) (pe_meth (pv 0) T.cl_Field T.m_Field_plant G_Field_plant hr T.b_Field_plant .nil pass0 (pa_cons (pv 1) (pa_cons (pe_ix ix_list (pe_fld (pv 0) rfl) (pv 1) (fun _ _ => rfl)) (pa_cons (pv 3) pa_nil)))) rfl)
  (pss_one (ps_ret (pe_fld (pv 3) rfl))))))), ?_⟩
    refine ⟨_, rfl, p, dx, _, rfl, F.ob, ff_no (by decide +kernel) (by decide +kernel) (by decide +kernel), _, rfl, H0, p, dx, lt, ln, S, h, rfl, F, fun h0 h1 => ?_, k2⟩
    obtain ⟨j, rfl⟩ := Int.eq_ofNat_of_zero_le h0
    have hj : j < S.ts.length := by omega
    obtain ⟨s, hs⟩ : ∃ s, S.ts[j]? = some s := ⟨S.ts[j], List.getElem?_eq_getElem hj⟩
    -- node = Node(len(self._nodes), weight, heap)
    refine ⟨_, rfl, p, T.c_Field, dx, _, _, rfl, F.ob, T.cl_Field, T.n_Field_nodes, ff_nodes, ln, _, rfl, .inl (SqL.of F.lns), _, rfl, _, rfl, ?_⟩
    intro a da ha hda hne
    refine ⟨a, da, (S.ns.length : Int), w, (j : Int), rfl, upd_same, fun H1 h1 f1 => ⟨rfl, ?_⟩⟩
    have keep : ∀ b o, H b = some o → H1 b = some o := fun b o e => f1 b o (by rw [upd_ne (ne_of_none e ha), upd_ne (ne_of_none e hda)]; exact e) (fun z => ne_of_none e ha (List.mem_singleton.mp z))
    have sm1 : Same H H1 := keep
    have an : a ∉ S.ts.flatMap Tre.addrs := fun z => by
      obtain ⟨t, ht, hb⟩ := List.mem_flatMap.mp z
      exact (F.tr t ht).1.ne ha hb
    have a0 : H0 a = none := F.same.free ha
    have npa : p ≠ a := ne_of_none F.ob ha
    have nla : lt ≠ a := ne_of_none F.lts ha
    have nna : ln ≠ a := ne_of_none F.lns ha
    -- self._nodes.append(node)
    refine ⟨_, rfl, p, T.c_Field, dx, _, _, rfl, keep _ _ F.ob, T.cl_Field, T.n_Field_nodes, ff_nodes, .inl ⟨rfl, _, SqL.of (keep _ _ F.lns)⟩, _, rfl, ln, _, _, rfl, rfl, keep _ _ F.lns, Evl.sz_lt (by omega), ?_⟩
    have n1 := F.pt
    generalize hH2 : upd H1 ln (.lst (S.ns ++ [.ref a])) = H2
    have f2 : Frame [ln] H1 H2 := by
      rw [← hH2]
      exact Frame.wr (List.mem_singleton.mpr rfl)
    have p2 : H2 p = some (.ins T.c_Field dx (ff lt ln S.wk)) := f2 _ _ (keep _ _ F.ob) (fun z => n1.2 (List.mem_singleton.mp z))
    have t2 : H2 lt = some (.lst (S.ts.map ref)) := f2 _ _ (keep _ _ F.lts) (fun z => F.ne (List.mem_singleton.mp z))
    have a2 : H2 a = some (.ins T.c_Node da (nf (S.ns.length : Int) w (j : Int) .non .non .non 1)) := f2 _ _ h1 (fun z => nna (List.mem_singleton.mp z).symm)
    have l2 : H2 ln = some (.lst (S.ns ++ [.ref a])) := by rw [← hH2, upd_same]
    have sT : TAt T.c_Node H2 s .non := ((F.tr s (get_mem hs)).1.same sm1).keep f2 fun b hb z => (F.apart (F.tr s (get_mem hs)).1).2.2 (by rw [← List.mem_singleton.mp z]; exact hb)
    have lT : TAt T.c_Node H2 (leaf a S.ns.length w j) .non := ⟨⟨da, a2⟩, trivial, trivial⟩
    have sub : ∀ b ∈ Tre.addrs s, b ∈ S.ts.flatMap Tre.addrs := fun b hb => List.mem_flatMap.mpr ⟨s, get_mem hs, hb⟩
    have hNs : (Tre.addrs s).Nodup := by
      obtain ⟨X, Y, eS, _⟩ := at_split hs
      have hnd := G.nd
      rw [eS] at hnd
      exact (List.nodup_append.mp (flat_split.nodup_iff.mp hnd)).1
    have hN : (Tre.addrs s ++ Tre.addrs (leaf a S.ns.length w j)).Nodup := by
      refine List.nodup_append.mpr ⟨hNs, (by show [a].Nodup; simp), fun x hx y hy e => ?_⟩
      have e2 : y = a := List.mem_singleton.mp hy
      rw [e, e2] at hx
      exact an (sub a hx)
    have hsp : s.spine + (leaf a S.ns.length w j).spine ≤ 20 := by
      have := spine_le (G.lo s (get_mem hs)) (by have := G.size hs; have := G.len; omega)
      show s.spine + (0 + 1) ≤ 20
      omega
    -- self._work = self._plant(heap, self._tops[heap], node)
    refine ⟨_, rfl, p, dx, _, rfl, p2, ff_no (by decide +kernel) (by decide +kernel) (by decide +kernel), _, rfl, _, rfl, p, T.c_Field, dx, _, _, rfl, p2, T.cl_Field, T.n_Field_tops, ff_tops, _, rfl, lt, _, _, _, rfl, rfl, SqL.of t2, at_of (j := j) rfl (by rw [List.getElem?_map, hs]; rfl), _, rfl, ?_⟩
    refine ⟨p, dx, lt, ln, S.wk, _, j, s, leaf a S.ns.length w j, .non, .non, rfl, p2, t2, by rw [List.length_map]; exact hj, sT, lT, hN, hsp, fun H3 t3 l3 f3 => ?_⟩
    have ap := F.apart (F.tr s (get_mem hs)).1
    have out : ∀ b, b ∉ Tre.addrs s → b ≠ a → b ≠ lt → b ∉ lt :: (Tre.addrs s ++ Tre.addrs (leaf a S.ns.length w j)) := fun b h1 h2 h3 z => by
      rcases List.mem_cons.mp z with z | z
      · exact h3 z
      · rcases List.mem_append.mp z with z | z
        · exact h1 z
        · exact h2 (List.mem_singleton.mp z)
    have p3 : H3 p = some (.ins T.c_Field dx (ff lt ln S.wk)) := f3 _ _ p2 (out p ap.1 npa n1.1)
    have ln3 : H3 ln = some (.lst (S.ns ++ [.ref a])) := f3 _ _ l2 (out ln ap.2.2 nna F.ne.symm)
    refine ⟨_, rfl, p, T.c_Field, dx, _, rfl, p3, T.cl_Field, T.n_Field_work, ff_len, ?_⟩
    rw [ff_put]
    generalize hH4 : upd H3 p (.ins T.c_Field dx (ff lt ln ((join s (leaf a S.ns.length w j)).2 : Int))) = H4
    have f4 : Frame [p] H3 H4 := by
      rw [← hH4]
      exact Frame.wr (List.mem_singleton.mpr rfl)
    have am : a ∈ Tre.addrs (join s (leaf a S.ns.length w j)).1 := (join_addrs _ _).mem_iff.mpr (List.mem_append_right _ (List.mem_singleton.mpr rfl))
    have pn : p ∉ Tre.addrs (join s (leaf a S.ns.length w j)).1 := fun z => (List.mem_append.mp ((join_addrs _ _).mem_iff.mp z)).elim ap.1 fun q => npa (List.mem_singleton.mp q)
    have t4 : TAt T.c_Node H4 (join s (leaf a S.ns.length w j)).1 .non := t3.keep f4 fun b hb z => pn (by rw [← List.mem_singleton.mp z]; exact hb)
    -- return node.thing
    obtain ⟨i', w', h', x', l', r', k', dx', e4⟩ : ∃ i' w' h' x' l' r' k' dx', H4 a = some (.ins T.c_Node dx' (nf i' w' h' x' l' r' k')) ∧ i' = (S.ns.length : Int) := by
      have key : ∀ (t : Tre) (ab : V), TAt T.c_Node H4 t ab → ∀ d ∈ dats t, ∃ w' h' x' l' r' k' dx', H4 d.a = some (.ins T.c_Node dx' (nf (d.i : Int) w' h' x' l' r' k')) := by
        intro t
        induction t with
        | nil => intro ab _ d hd
                 cases hd
        | nd n l r ihl ihr =>
          intro ab h d hd
          rw [dats_nd] at hd
          rcases List.mem_cons.mp hd with z | z
          · rw [z]
            obtain ⟨dd, e⟩ := h.1
            exact ⟨_, _, _, _, _, _, dd, e⟩
          · rcases List.mem_append.mp z with z | z
            · exact ihl _ h.2.1 d z
            · exact ihr _ h.2.2 d z
      obtain ⟨w', h', x', l', r', k', dx', e⟩ := key _ _ t4 ⟨a, S.ns.length, w, (j : Int)⟩ ((joinD _ _).mem_iff.mpr (List.mem_append_right _ (List.mem_singleton.mpr rfl)))
      exact ⟨_, w', h', x', l', r', k', dx', e, rfl⟩
    obtain ⟨e4, ei⟩ := e4
    refine ⟨_, rfl, a, T.c_Node, dx', _, _, rfl, e4, T.cl_Node, T.n_Node_thing, nf_thing, ?_⟩
    rw [ei]
    refine k1 j rfl hj H4 a an ⟨G.put hs hlen an w, dx, lt, ln, ?_⟩
    have es := getD_of hs
    unfold Fs.put
    rw [es]
    refine F.repl G.nd hs [a] (fun b hb => by rw [List.mem_singleton.mp hb]; exact ⟨a0, an⟩) ?_ ?_ ?_ ?_ t4 fun b hb => ?_
    · have m1 : Frame (p :: lt :: ln :: (Tre.addrs s ++ [a])) H1 H2 := f2.mono fun b hb => by rw [List.mem_singleton.mp hb]; simp
      have m2 : Frame (p :: lt :: ln :: (Tre.addrs s ++ [a])) H2 H3 := f3.mono fun b hb => by
        rcases List.mem_cons.mp hb with z | z
        · rw [z]
          simp
        · exact List.mem_cons_of_mem _ (List.mem_cons_of_mem _ (List.mem_cons_of_mem _ z))
      have m3 : Frame (p :: lt :: ln :: (Tre.addrs s ++ [a])) H3 H4 := f4.mono fun b hb => by rw [List.mem_singleton.mp hb]; exact List.mem_cons_self
      exact (((Frame.same sm1).trans m1).trans m2).trans m3
    · rw [← hH4, upd_same]
    · rw [f4 _ _ l3 fun z => n1.1 (List.mem_singleton.mp z).symm, List.map_set]
    · exact f4 _ _ ln3 fun z => n1.2 (List.mem_singleton.mp z).symm
    · exact (List.mem_append.mp ((join_addrs _ _).mem_iff.mp hb)).imp id id
end
section
variable {P : Program} {w : World} {K : PySem.W.Frag} {mg : Str → Option Value} {base : Heap}
/-- h is a heap's number -/
abbrev InH (S : Fs) (h : Int) : Prop := 0 ≤ h ∧ h < (S.ts.length : Int)
/-- _top(heap) -/
def sp_top (C D eN eB : Addr) : Sp := fun vs H Q E => ∃ (H0 : Hp) (p dx lt ln : Addr) (S : Fs) (h : Int), vs = [.ref p, .int h] ∧ FAt C D H0 H p dx lt ln S ∧ h.natAbs.log2 < 1920 ∧
  (∀ (j : Nat) (n : Nd) (l r : Tre), h = (j : Int) → S.ts[j]? = some (.nd n l r) → Q (.ref n.a) H) ∧ (∀ j : Nat, h = (j : Int) → S.ts[j]? = some .nil → E (.ref eB) none H) ∧ (¬ InH S h → E (.ref eN) none H)
theorem ok_top (T : Txt K mg) : FnOk P w K mg base (L2.CX P w) 2 T.a_Field_top T.d_Field_top ["self", "heap"] (sp_top T.c_Node T.c_Field T.e_NoHeap T.e_Bare) := by
  have G_Field_check_heap : FnOk P w K mg base (L2.CX P w) 1 _ _ _ _ := ok_check T
  refine T.F_Field_top.okX sc_Field_top (fun vs H Q E h => ?_) (fun cdv A outer s H vs Q E hr h => ?_)
  · obtain ⟨H0, p, dx, lt, ln, S, h, rfl, _⟩ := h
    rfl
  · obtain ⟨H0, p, dx, lt, ln, S, h, rfl, F, hl, k1, k2, k3⟩ := h
    refine ⟨_, (pss_cons (ps_expr (pe_meth (pv 0) T.cl_Field T.m_Field_check_heap G_Field_check_heap hr T.b_Field_check_heap .nil (E := E) (passes_call (takes_of rfl rfl rfl rfl) (fun _ _ _ _ h => h)) (pa_cons (pv 1) pa_nil)))
  (pss_cons (ps_set (i := 2) sc_Field_top.nd rfl (.inl rfl) (pe_ix ix_list (pe_fld (pv 0) rfl) (pv 1) (fun _ _ => rfl)))
  (pss_cons (ps_if (pt_cmpR op_isN (pv 2) pe_non (nomark _))
  (pss_one (ps_raise rfl (takes_of rfl rfl rfl rfl) (pmk_ownA PySem.F.excBase_ValueError T.xBare T.gBare T.kBare (raises_own T.bBare T.tBare) rfl (pa_cons (pe_joined (.cons pe_str (.cons (pe_fmt (pv 1)) (.cons pe_str .nil)))) pa_nil))))
  pss_nil)
  (pss_one (ps_ret (pv 2)))))), ?_⟩
    refine ⟨_, rfl, p, dx, _, rfl, F.ob, ff_no (by decide +kernel) (by decide +kernel) (by decide +kernel), _, rfl, H0, p, dx, lt, ln, S, h, rfl, F, fun h0 h1 => ?_, fun hb => ⟨hl, k3 hb⟩⟩
    obtain ⟨j, rfl⟩ := Int.eq_ofNat_of_zero_le h0
    have hj : j < S.ts.length := by omega
    obtain ⟨s, hs⟩ : ∃ s, S.ts[j]? = some s := ⟨S.ts[j], List.getElem?_eq_getElem hj⟩
    refine ⟨_, rfl, p, T.c_Field, dx, _, _, rfl, F.ob, T.cl_Field, T.n_Field_tops, ff_tops, _, rfl, lt, _, _, _, rfl, rfl, SqL.of F.lts, at_of (j := j) rfl (by rw [List.getElem?_map, hs]; rfl), ?_⟩
    refine ⟨_, rfl, rfl, _, rfl, ?_⟩
    cases s with
    | nil =>
      have w1 : (Str.empty ++ ("heap " : Str)).length ≤ 5 := by decide +kernel
      have w2 : (" is empty" : Str).length ≤ 9 := by decide +kernel
      refine t_yes rfl ⟨_, rfl, fits (Nat.le_trans w1 (by decide)), _, rfl, .inr ⟨(j : Int), rfl, hl, _, rfl, fits (Nat.le_trans (app_fits w1 (txt_len hl)) (by decide)), _, rfl, fits (Nat.le_trans (app_fits (app_fits w1 (txt_len hl)) w2) (by decide)), (by show 1 ≤ sizeLine; decide), k2 j rfl hs⟩⟩
    | nd n l r => exact t_no (by intro z; cases z) ⟨_, rfl, k1 j n l r rfl hs⟩
/-- _node(thing) -/
def sp_node (C D eT : Addr) : Sp := fun vs H Q E => ∃ (H0 : Hp) (p dx lt ln : Addr) (S : Fs) (i : Int), vs = [.ref p, .int i] ∧ FAt C D H0 H p dx lt ln S ∧ Good S ∧ i.natAbs.log2 < 1920 ∧
  (∀ (k : Nat) (a : Addr), i = (k : Int) → S.ns[k]? = some (.ref a) → Q (.ref a) H) ∧ ((∀ (k : Nat) (a : Addr), i = (k : Int) → S.ns[k]? ≠ some (.ref a)) → E (.ref eT) none H)
theorem ok_node (T : Txt K mg) : FnOk P w K mg base (L2.CX P w) 1 T.a_Field_node T.d_Field_node ["self", "thing"] (sp_node T.c_Node T.c_Field T.e_NoThing) := by
  refine T.F_Field_node.okX sc_Field_node (fun vs H Q E h => ?_) (fun cdv A outer s H vs Q E hr h => ?_)
  · obtain ⟨H0, p, dx, lt, ln, S, i, rfl, _⟩ := h
    rfl
  · obtain ⟨H0, p, dx, lt, ln, S, i, rfl, F, G, hl, k1, k2⟩ := h
    refine ⟨_, (pss_cons (ps_if (pt_not (pt_chain op_le op_lt pe_int (pv 1) (pe_callB call_len_seq (by rfl) T.z_len PySem.boot_len (pa_cons (pe_fld (pv 0) rfl) pa_nil))))
  (pss_one (ps_raise rfl (takes_of rfl rfl rfl rfl) (pmk_ownA PySem.F.excBase_ValueError T.xNoThing T.gNoThing T.kNoThing (raises_own T.bNoThing T.tNoThing) rfl (pa_cons (pe_joined (.cons pe_str (.cons (pe_fmt (pv 1)) .nil))) pa_nil))))
  pss_nil)
  (pss_cons (ps_set (i := 2) sc_Field_node.nd rfl (.inl rfl) (pe_ix ix_list (pe_fld (pv 0) rfl) (pv 1) (fun _ _ => rfl)))
  (pss_cons (ps_if (pt_cmpR op_isN (pv 2) pe_non (nomark _))
  (pss_one (ps_raise rfl (takes_of rfl rfl rfl rfl) (pmk_ownA PySem.F.excBase_ValueError T.xNoThing T.gNoThing T.kNoThing (raises_own T.bNoThing T.tNoThing) rfl (pa_cons (pe_joined (.cons pe_str (.cons (pe_fmt (pv 1)) (.cons pe_str .nil)))) pa_nil))))
  pss_nil)
  (pss_one (ps_ret (pv 2)))))), ?_⟩
    have w1 : (Str.empty ++ ("there is no thing " : Str)).length ≤ 18 := by decide +kernel
    have w2 : (Str.empty ++ ("thing " : Str)).length ≤ 6 := by decide +kernel
    have w3 : (" is gone" : Str).length ≤ 8 := by decide +kernel
    have bad : E (.ref T.e_NoThing) none H → (tCons (fun σ H Q => tJs [tC (.str "there is no thing "), tFmt (tVar 1)] Str.empty σ H fun out H1 => Q (.str out) H1) tNil) (start N_Field_node [.ref p, .int i]) H (fun vs H1 => vs.length ≤ sizeLine ∧ E (.ref T.e_NoThing) none H1) := fun e =>
      ⟨_, rfl, fits (Nat.le_trans w1 (by decide)), _, rfl, .inr ⟨i, rfl, hl, _, rfl, fits (Nat.le_trans (app_fits w1 (txt_len hl)) (by decide)), (by show 1 ≤ sizeLine; decide), e⟩⟩
    refine ⟨_, rfl, _, _, rfl, rfl, _, rfl, t_2 (fun c => ?_) (fun c => ?_)⟩
    · refine ⟨_, rfl, p, T.c_Field, dx, _, _, rfl, F.ob, T.cl_Field, T.n_Field_nodes, ff_nodes, ln, _, rfl, .inl (SqL.of F.lns), _, _, rfl, rfl, _, rfl, ?_⟩
      by_cases c2 : i < (S.ns.length : Int)
      · refine n_yes c2 ?_
        obtain ⟨k, rfl⟩ := Int.eq_ofNat_of_zero_le c
        have hk : k < S.ns.length := by omega
        obtain ⟨v, hv⟩ : ∃ v, S.ns[k]? = some v := ⟨S.ns[k], List.getElem?_eq_getElem hk⟩
        refine ⟨_, rfl, p, T.c_Field, dx, _, _, rfl, F.ob, T.cl_Field, T.n_Field_nodes, ff_nodes, _, rfl, ln, _, _, _, rfl, rfl, SqL.of F.lns, at_of (j := k) rfl hv, ?_⟩
        refine ⟨_, rfl, rfl, _, rfl, ?_⟩
        rcases G.ent v (get_mem hv) with e | ⟨a, e⟩
        · subst e
          refine t_yes rfl ⟨_, rfl, fits (Nat.le_trans w2 (by decide)), _, rfl, .inr ⟨(k : Int), rfl, hl, _, rfl, fits (Nat.le_trans (app_fits w2 (txt_len hl)) (by decide)), _, rfl, fits (Nat.le_trans (app_fits (app_fits w2 (txt_len hl)) w3) (by decide)), (by show 1 ≤ sizeLine; decide), k2 fun k' a e h => ?_⟩⟩
          have e' : k' = k := by omega
          rw [e', hv] at h
          cases h
        · subst e
          exact t_no (by intro z; cases z) ⟨_, rfl, k1 k a rfl hv⟩
      · exact n_no c2 (bad (k2 fun k' a e h => c2 (by have := get_len h; omega)))
    · exact ⟨_, rfl, iteT (bad (k2 fun k' a e h => c (by omega)))⟩
/-- least(heap) -/
def sp_least (C D eN eB : Addr) : Sp := fun vs H Q E => ∃ (H0 : Hp) (p : Addr) (S : Fs) (h : Int), vs = [.ref p, .int h] ∧ Fd C D H0 H p S ∧ h.natAbs.log2 < 1920 ∧
  (∀ (j : Nat) (n : Nd) (l r : Tre), h = (j : Int) → S.ts[j]? = some (.nd n l r) → ∀ H' q, H0 q = none → Fd C D (upd H0 q (.tup [.int n.w, .int n.i])) H' p S → Q (.ref q) H') ∧
  (∀ j : Nat, h = (j : Int) → S.ts[j]? = some .nil → E (.ref eB) none H) ∧ (¬ InH S h → E (.ref eN) none H)
theorem ok_least (T : Txt K mg) : FnOk P w K mg base (L2.CX P w) 3 T.a_Field_least T.d_Field_least ["self", "heap"] (sp_least T.c_Node T.c_Field T.e_NoHeap T.e_Bare) := by
  have G_Field_top : FnOk P w K mg base (L2.CX P w) 2 _ _ _ _ := ok_top T
  refine T.F_Field_least.okX sc_Field_least (fun vs H Q E h => ?_) (fun cdv A outer s H vs Q E hr h => ?_)
  · obtain ⟨H0, p, S, h, rfl, _⟩ := h
    rfl
  · obtain ⟨H0, p, S, h, rfl, ⟨G, dx, lt, ln, F⟩, hl, k1, k2, k3⟩ := h
    refine ⟨_, (pss_cons (ps_set (i := 2) sc_Field_least.nd rfl (.inl rfl) (pe_meth (pv 0) T.cl_Field T.m_Field_top G_Field_top hr T.b_Field_top .nil (E := E) (passes_call (takes_of rfl rfl rfl rfl) (fun _ _ _ _ h => h)) (pa_cons (pv 1) pa_nil)))
  (pss_one (ps_ret (pe_tup (pa_cons (pe_fld (pv 2) rfl) (pa_cons (pe_fld (pv 2) rfl) pa_nil)))))), ?_⟩
    refine ⟨_, rfl, p, dx, _, rfl, F.ob, ff_no (by decide +kernel) (by decide +kernel) (by decide +kernel), _, rfl, H0, p, dx, lt, ln, S, h, rfl, F, hl, fun j n l r e hs => ?_, k2, k3⟩
    obtain ⟨⟨dn, en⟩, _⟩ := id (F.tr _ (get_mem hs)).1
    refine ⟨_, rfl, n.a, T.c_Node, dn, _, _, rfl, en, T.cl_Node, T.n_Node_weight, nf_weight, _, rfl, n.a, T.c_Node, dn, _, _, rfl, en, T.cl_Node, T.n_Node_thing, nf_thing, (by show 2 ≤ sizeLine; decide), fun q hq => ?_⟩
    exact k1 j n l r e hs _ q (F.same.free hq) ⟨G, dx, lt, ln, F.wr (.inr hq)⟩
/-- take(heap) -/
def sp_take (C D eN eB : Addr) : Sp := fun vs H Q E => ∃ (H0 : Hp) (p : Addr) (S : Fs) (h : Int), vs = [.ref p, .int h] ∧ Fd C D H0 H p S ∧ h.natAbs.log2 < 1920 ∧
  (∀ (j : Nat) (n : Nd) (l r : Tre), h = (j : Int) → S.ts[j]? = some (.nd n l r) → ∀ H' q, H0 q = none → Fd C D (upd H0 q (.tup [.int n.w, .int n.i])) H' p (S.take j n l r) → Q (.ref q) H') ∧
  (∀ j : Nat, h = (j : Int) → S.ts[j]? = some .nil → E (.ref eB) none H) ∧ (¬ InH S h → E (.ref eN) none H)
theorem ok_take (T : Txt K mg) : FnOk P w K mg base (L2.CX P w) 26 T.a_Field_take T.d_Field_take ["self", "heap"] (sp_take T.c_Node T.c_Field T.e_NoHeap T.e_Bare) := by
  have G_Field_top : FnOk P w K mg base (L2.CX P w) 25 _ _ _ _ := (ok_top T).mono (by decide)
  have G_Field_plant : FnOk P w K mg base CX0 25 _ _ _ _ := ok_plant T
  refine T.F_Field_take.okX sc_Field_take (fun vs H Q E h => ?_) (fun cdv A outer s H vs Q E hr h => ?_)
  · obtain ⟨H0, p, S, h, rfl, _⟩ := h
    rfl
  · obtain ⟨H0, p, S, h, rfl, ⟨G, dx, lt, ln, F⟩, hl, k1, k2, k3⟩ := h
    refine ⟨_, (pss_cons (ps_set (i := 2) sc_Field_take.nd rfl (.inl rfl) (pe_meth (pv 0) T.cl_Field T.m_Field_top G_Field_top hr T.b_Field_top .nil (E := E) (passes_call (takes_of rfl rfl rfl rfl) (fun _ _ _ _ h => h)) (pa_cons (pv 1) pa_nil)))
  (pss_cons (ps_asg pe_non (pg_sub (pe_fld (pv 0) rfl) (pe_fld (pv 2) rfl) set_list))
  (pss_cons (ps_fld (pv 0) (pe_meth (pv 0) T.cl_Field T.m_Field_plant G_Field_plant hr T.b_Field_plant .nil pass0 (pa_cons (pv 1) (pa_cons (pe_fld (pv 2) rfl) (pa_cons (pe_fld (pv 2) rfl) pa_nil)))) rfl)
  (pss_one (ps_ret (pe_tup (pa_cons (pe_fld (pv 2) rfl) (pa_cons (pe_fld (pv 2) rfl) pa_nil)))))))), ?_⟩
    refine ⟨_, rfl, p, dx, _, rfl, F.ob, ff_no (by decide +kernel) (by decide +kernel) (by decide +kernel), _, rfl, H0, p, dx, lt, ln, S, h, rfl, F, hl, fun j n l r e hs => ?_, k2, k3⟩
    have hj := get_len hs
    have tt := (F.tr _ (get_mem hs)).1
    obtain ⟨⟨dn, en⟩, hL, hR⟩ := id tt
    have ap := F.apart tt
    have n1 := F.pt
    have hi := (G.top hs).2
    have hii := get_len hi
    -- self._nodes[top.thing] = None
    refine ⟨_, rfl, p, T.c_Field, dx, _, _, rfl, F.ob, T.cl_Field, T.n_Field_nodes, ff_nodes, _, rfl, n.a, T.c_Node, dn, _, _, rfl, en, T.cl_Node, T.n_Node_thing, nf_thing, ln, _, _, n.i, rfl, rfl, F.lns, Evl.ixN_nat hii, ?_⟩
    generalize hH1 : upd H ln (.lst (S.ns.set n.i .non)) = H1
    have f1 : Frame [ln] H H1 := by
      rw [← hH1]
      exact Frame.wr (List.mem_singleton.mpr rfl)
    have p1 : H1 p = some (.ins T.c_Field dx (ff lt ln S.wk)) := f1 _ _ F.ob fun z => n1.2 (List.mem_singleton.mp z)
    have t1 : H1 lt = some (.lst (S.ts.map ref)) := f1 _ _ F.lts fun z => F.ne (List.mem_singleton.mp z)
    have l1 : H1 ln = some (.lst (S.ns.set n.i .non)) := by rw [← hH1, upd_same]
    have tt1 : TAt T.c_Node H1 (.nd n l r) .non := tt.keep f1 fun b hb z => ap.2.2 (by rw [← List.mem_singleton.mp z]; exact hb)
    obtain ⟨⟨dn1, en1⟩, hL1, hR1⟩ := id tt1
    have hA : (Tre.addrs (.nd n l r)).Nodup := by
      obtain ⟨X, Y, eS, _⟩ := at_split hs
      have hnd := G.nd
      rw [eS] at hnd
      exact (List.nodup_append.mp (flat_split.nodup_iff.mp hnd)).1
    rw [addrs_nd, List.nodup_cons] at hA
    have lo := G.lo _ (get_mem hs)
    have hz : (Tre.nd n l r).size = l.size + r.size + 1 := rfl
    have hsz := G.size hs
    have hln := G.len
    have hsp : l.spine + r.spine ≤ 20 := by
      have h1 := spine_le lo.2.2.1 (by omega)
      have h2 := spine_le lo.2.2.2 (by omega)
      omega
    -- self._work = self._plant(heap, top.left, top.right)
    subst e
    refine ⟨_, rfl, p, dx, _, rfl, p1, ff_no (by decide +kernel) (by decide +kernel) (by decide +kernel), _, rfl, _, rfl, n.a, T.c_Node, dn1, _, _, rfl, en1, T.cl_Node, T.n_Node_left, nf_left, _, rfl, n.a, T.c_Node, dn1, _, _, rfl, en1, T.cl_Node, T.n_Node_right, nf_right, ?_⟩
    refine ⟨p, dx, lt, ln, S.wk, _, j, l, r, _, _, rfl, p1, t1, by rw [List.length_map]; exact hj, hL1, hR1, hA.2, hsp, fun H2 t2 l2 f2 => ?_⟩
    have out : ∀ b, b ∉ Tre.addrs l ++ Tre.addrs r → b ≠ lt → b ∉ lt :: (Tre.addrs l ++ Tre.addrs r) := fun b h1 h2 z => (List.mem_cons.mp z).elim h2 h1
    have in_ : ∀ b, b ∈ Tre.addrs l ++ Tre.addrs r → b ∈ Tre.addrs (.nd n l r) := fun b h => by rw [addrs_nd]; exact List.mem_cons_of_mem _ h
    have p2 : H2 p = some (.ins T.c_Field dx (ff lt ln S.wk)) := f2 _ _ p1 (out p (fun z => ap.1 (in_ p z)) n1.1)
    have ln2 : H2 ln = some (.lst (S.ns.set n.i .non)) := f2 _ _ l1 (out ln (fun z => ap.2.2 (in_ ln z)) F.ne.symm)
    have na : n.a ≠ lt := fun z => ap.2.1 (by rw [← z, addrs_nd]; exact List.mem_cons_self)
    have npn : n.a ≠ p := fun z => ap.1 (by rw [← z, addrs_nd]; exact List.mem_cons_self)
    have en2 : H2 n.a = some (.ins T.c_Node dn1 (nf n.i n.w n.h .non (ref l) (ref r) n.k)) := f2 _ _ en1 (out n.a hA.1 na)
    refine ⟨_, rfl, p, T.c_Field, dx, _, rfl, p2, T.cl_Field, T.n_Field_work, ff_len, ?_⟩
    rw [ff_put]
    generalize hH3 : upd H2 p (.ins T.c_Field dx (ff lt ln ((join l r).2 : Int))) = H3
    have f3 : Frame [p] H2 H3 := by
      rw [← hH3]
      exact Frame.wr (List.mem_singleton.mpr rfl)
    have en3 : H3 n.a = some (.ins T.c_Node dn1 (nf n.i n.w n.h .non (ref l) (ref r) n.k)) := f3 _ _ en2 fun z => npn (List.mem_singleton.mp z)
    have t3 : TAt T.c_Node H3 (join l r).1 .non := t2.keep f3 fun b hb z => ap.1 (in_ p (by rw [← List.mem_singleton.mp z]; exact (join_addrs l r).mem_iff.mp hb))
    -- return (top.weight, top.thing)
    refine ⟨_, rfl, n.a, T.c_Node, dn1, _, _, rfl, en3, T.cl_Node, T.n_Node_weight, nf_weight, _, rfl, n.a, T.c_Node, dn1, _, _, rfl, en3, T.cl_Node, T.n_Node_thing, nf_thing, (by show 2 ≤ sizeLine; decide), fun q hq => ?_⟩
    have F3 : FAt T.c_Node T.c_Field H0 H3 p dx lt ln (S.take j n l r) := by
      refine F.repl G.nd hs [] (fun b hb => by cases hb) ?_ (by rw [← hH3, upd_same]) ?_ ?_ t3 fun b hb => .inl (in_ b ((join_addrs l r).mem_iff.mp hb))
      · rw [List.append_nil]
        have m1 : Frame (p :: lt :: ln :: Tre.addrs (.nd n l r)) H H1 := f1.mono fun b hb => by rw [List.mem_singleton.mp hb]; simp
        have m2 : Frame (p :: lt :: ln :: Tre.addrs (.nd n l r)) H1 H2 := f2.mono fun b hb => by
          rcases List.mem_cons.mp hb with z | z
          · rw [z]
            simp
          · exact List.mem_cons_of_mem _ (List.mem_cons_of_mem _ (List.mem_cons_of_mem _ (in_ b z)))
        have m3 : Frame (p :: lt :: ln :: Tre.addrs (.nd n l r)) H2 H3 := f3.mono fun b hb => by rw [List.mem_singleton.mp hb]; exact List.mem_cons_self
        exact (m1.trans m2).trans m3
      · rw [f3 _ _ l2 fun z => n1.1 (List.mem_singleton.mp z).symm, List.map_set]
      · exact f3 _ _ ln2 fun z => n1.2 (List.mem_singleton.mp z).symm
    exact k1 j n l r rfl hs _ q (F3.same.free hq) ⟨G.take hs, dx, lt, ln, F3.wr (.inr hq)⟩
/-- things(heap) -/
def sp_things (C D eN : Addr) : Sp := fun vs H Q E => ∃ (H0 : Hp) (p : Addr) (S : Fs) (h : Int), vs = [.ref p, .int h] ∧ Fd C D H0 H p S ∧ h.natAbs.log2 < 1920 ∧
  (∀ (j : Nat) (s : Tre), h = (j : Int) → S.ts[j]? = some s → ∀ H', Fd C D H0 H' p S → Q (.int (s.size : Int)) H') ∧ (¬ InH S h → E (.ref eN) none H)
theorem ok_things (T : Txt K mg) : FnOk P w K mg base (L2.CX P w) 2 T.a_Field_things T.d_Field_things ["self", "heap"] (sp_things T.c_Node T.c_Field T.e_NoHeap) := by
  have G_Field_check_heap : FnOk P w K mg base (L2.CX P w) 1 _ _ _ _ := ok_check T
  have G_in_order : FnOk P w K mg base CX0 1 _ _ _ _ := ok_in_order T
  refine T.F_Field_things.okX sc_Field_things (fun vs H Q E h => ?_) (fun cdv A outer s H vs Q E hr h => ?_)
  · obtain ⟨H0, p, S, h, rfl, _⟩ := h
    rfl
  · obtain ⟨H0, p, S, h, rfl, ⟨G, dx, lt, ln, F⟩, hl, k1, k3⟩ := h
    refine ⟨_, (pss_cons (ps_expr (pe_meth (pv 0) T.cl_Field T.m_Field_check_heap G_Field_check_heap hr T.b_Field_check_heap .nil (E := E) (passes_call (takes_of rfl rfl rfl rfl) (fun _ _ _ _ h => h)) (pa_cons (pv 1) pa_nil)))
  (pss_one (ps_ret (pe_callB call_len_seq (by rfl) T.z_len PySem.boot_len (pa_cons (pe_call G_in_order hr rfl T.g_in_order T.F_in_order.kp T.b_in_order .nil pass0 (pa_cons (pe_ix ix_list (pe_fld (pv 0) rfl) (pv 1) (fun _ _ => rfl)) pa_nil)) pa_nil))))), ?_⟩
    refine ⟨_, rfl, p, dx, _, rfl, F.ob, ff_no (by decide +kernel) (by decide +kernel) (by decide +kernel), _, rfl, H0, p, dx, lt, ln, S, h, rfl, F, fun h0 h1 => ?_, fun hb => ⟨hl, k3 hb⟩⟩
    obtain ⟨j, rfl⟩ := Int.eq_ofNat_of_zero_le h0
    have hj : j < S.ts.length := by omega
    obtain ⟨s, hs⟩ : ∃ s, S.ts[j]? = some s := ⟨S.ts[j], List.getElem?_eq_getElem hj⟩
    have tt := (F.tr _ (get_mem hs)).1
    have hsz := G.size hs
    have hln := G.len
    refine ⟨_, rfl, p, T.c_Field, dx, _, _, rfl, F.ob, T.cl_Field, T.n_Field_tops, ff_tops, _, rfl, lt, _, _, _, rfl, rfl, SqL.of F.lts, at_of (j := j) rfl (by rw [List.getElem?_map, hs]; rfl), s, _, rfl, tt, by omega, fun H1 q sm hq hq1 => ?_⟩
    refine ⟨q, _, rfl, .inl (SqL.of hq1), ?_⟩
    have e : (refs s.nodes).length = s.size := by
      unfold refs
      rw [List.length_map, size_nodes]
    rw [e]
    refine k1 j s rfl hs H1 ⟨G, dx, lt, ln, fun b o hb => sm _ _ (F.same b o hb), F.p0, F.t0, F.n0, sm _ _ F.ob, sm _ _ F.lts, sm _ _ F.lns, F.ne, fun t ht => ⟨(F.tr t ht).1.same sm, (F.tr t ht).2⟩⟩
/-- work() -/
def sp_work (C D : Addr) : Sp := fun vs H Q _ => ∃ (H0 : Hp) (p : Addr) (S : Fs), vs = [.ref p] ∧ Fd C D H0 H p S ∧ Q (.int S.wk) H
theorem ok_work (T : Txt K mg) : FnOk P w K mg base CX0 1 T.a_Field_work T.d_Field_work ["self"] (sp_work T.c_Node T.c_Field) := by
  refine T.F_Field_work.ok sc_Field_work (fun vs H Q E h => ?_) (fun cdv A outer s H vs Q E hr h => ?_)
  · obtain ⟨H0, p, S, rfl, _⟩ := h
    rfl
  · obtain ⟨H0, p, S, rfl, ⟨G, dx, lt, ln, F⟩, k⟩ := h
    refine ⟨_, (pss_one (ps_ret (pe_fld (pv 0) rfl))), ?_⟩
    exact ⟨_, rfl, p, T.c_Field, dx, _, _, rfl, F.ob, T.cl_Field, T.n_Field_work, ff_work, k⟩
end
/-! ### looking at all of a tree; pouring; sinking -/
namespace Tre
/-- each node with its parts, a thing ahead of its left part and that ahead of its right part -/
def subs : Tre → List (Nd × Tre × Tre)
  | nil => []
  | nd n l r => (n, l, r) :: (subs l ++ subs r)
theorem subs_nodes : ∀ t : Tre, (subs t).map (·.1) = nodes t
  | nil => rfl
  | nd n l r => by
    show n :: ((subs l ++ subs r).map (·.1)) = n :: (nodes l ++ nodes r)
    rw [List.map_append, subs_nodes l, subs_nodes r]
def rowOf (x : Nd × Tre × Tre) : List V := [.int x.1.i, .int x.1.w, thV x.2.1, thV x.2.2, .int x.1.k]
def mapN (f : Nd → Nd) : Tre → Tre
  | nil => nil
  | nd n l r => nd (f n) (mapN f l) (mapN f r)
def one (a : Addr) (h : Int) (n : Nd) : Nd := if n.a = a then { n with h := h } else n
theorem one_a {a : Addr} {h : Int} (n : Nd) : (one a h n).a = n.a := by
  unfold one
  split <;> rfl
theorem mapN_ref {f : Nd → Nd} (hf : ∀ n, (f n).a = n.a) : ∀ t : Tre, ref (mapN f t) = ref t
  | nil => rfl
  | nd n l r => congrArg V.ref (hf n)
theorem mapN_addrs {f : Nd → Nd} (hf : ∀ n, (f n).a = n.a) : ∀ t : Tre, addrs (mapN f t) = addrs t
  | nil => rfl
  | nd n l r => by
    show addrs (nd (f n) (mapN f l) (mapN f r)) = _
    rw [addrs_nd, addrs_nd, hf, mapN_addrs hf l, mapN_addrs hf r]
theorem mapN_off {a : Addr} {h : Int} : ∀ {t : Tre}, a ∉ addrs t → mapN (one a h) t = t
  | nil, _ => rfl
  | nd n l r, hn => by
    rw [addrs_nd] at hn
    have h1 : n.a ≠ a := fun e => hn (by rw [e]; exact List.mem_cons_self)
    show nd (one a h n) (mapN (one a h) l) (mapN (one a h) r) = nd n l r
    rw [mapN_off fun z => hn (List.mem_cons_of_mem _ (List.mem_append_left _ z)), mapN_off fun z => hn (List.mem_cons_of_mem _ (List.mem_append_right _ z))]
    unfold one
    rw [if_neg h1]
theorem mapN_comp (f g : Nd → Nd) : ∀ t : Tre, mapN f (mapN g t) = mapN (fun n => f (g n)) t
  | nil => rfl
  | nd n l r => by
    show nd (f (g n)) (mapN f (mapN g l)) (mapN f (mapN g r)) = nd (f (g n)) (mapN (fun n => f (g n)) l) (mapN (fun n => f (g n)) r)
    rw [mapN_comp f g l, mapN_comp f g r]
/-- those at the addresses as have the home h -/
def homes (h : Int) (as : List Addr) (t : Tre) : Tre := mapN (fun n => if n.a ∈ as then { n with h := h } else n) t
theorem homes_a {h : Int} {as : List Addr} (n : Nd) : (if n.a ∈ as then { n with h := h } else n).a = n.a := by
  split <;> rfl
theorem homes_nil (h : Int) : ∀ t : Tre, homes h [] t = t
  | nil => rfl
  | nd n l r => by
    have e1 := homes_nil h l
    have e2 := homes_nil h r
    show nd n (homes h [] l) (homes h [] r) = nd n l r
    rw [e1, e2]
theorem homes_snoc (h : Int) (as : List Addr) (a : Addr) (t : Tre) : mapN (one a h) (homes h as t) = homes h (as ++ [a]) t := by
  unfold homes
  rw [mapN_comp]
  congr 1
  funext n
  by_cases c : n.a ∈ as
  · have c2 : n.a ∈ as ++ [a] := List.mem_append_left _ c
    rw [if_pos c, if_pos c2]
    unfold one
    split <;> rfl
  · rw [if_neg c]
    unfold one
    by_cases c2 : n.a = a
    · rw [if_pos c2, if_pos (List.mem_append_right _ (List.mem_singleton.mpr c2))]
    · rw [if_neg c2, if_neg fun z => (List.mem_append.mp z).elim c fun q => c2 (List.mem_singleton.mp q)]
theorem homes_all (h : Nat) (as : List Addr) : ∀ t : Tre, (∀ b ∈ addrs t, b ∈ as) → homes h as t = homed h t
  | nil, _ => rfl
  | nd n l r, hs => by
    rw [addrs_nd] at hs
    have e1 := homes_all h as l fun b hb => hs b (List.mem_cons_of_mem _ (List.mem_append_left _ hb))
    have e2 := homes_all h as r fun b hb => hs b (List.mem_cons_of_mem _ (List.mem_append_right _ hb))
    show nd (if n.a ∈ as then { n with h := (h : Int) } else n) (homes h as l) (homes h as r) = nd { n with h := (h : Int) } (homed h l) (homed h r)
    rw [e1, e2, if_pos (hs _ List.mem_cons_self)]
theorem addrs_nodes (t : Tre) : addrs t = (nodes t).map Nd.a := by
  unfold addrs dats
  rw [List.map_map]
  rfl
end Tre
section
variable {C D : Addr} {H0 H H' : Hp} {p : Addr} {S : Fs}
theorem TAt.home : ∀ {t : Tre} {ab : V} {a : Addr} {h' : Int}, TAt C H t ab → (Tre.addrs t).Nodup → a ∈ Tre.addrs t →
    ∃ dx i w h x l r k, H a = some (.ins C dx (nf i w h x l r k)) ∧ TAt C (upd H a (.ins C dx (nf i w h' x l r k))) (mapN (one a h') t) ab
  | .nil, _, _, _, _, _, ha => by cases ha
  | .nd n l r, ab, a, h', ht, hN, ha => by
    rw [addrs_nd] at ha hN
    rw [List.nodup_cons] at hN
    obtain ⟨n1, n2, n3⟩ := nodup_app hN.2
    obtain ⟨⟨dn, en⟩, hl, hr⟩ := ht
    have rl := mapN_ref (f := one a h') one_a l
    have rr := mapN_ref (f := one a h') one_a r
    by_cases c : n.a = a
    · subst c
      refine ⟨dn, _, _, _, _, _, _, _, en, ?_⟩
      have f : Frame [n.a] H (upd H n.a (.ins C dn (nf n.i n.w h' ab (ref l) (ref r) n.k))) := Frame.wr (List.mem_singleton.mpr rfl)
      have e0 : mapN (one n.a h') (.nd n l r) = .nd { n with h := h' } l r := by
        show Tre.nd (one n.a h' n) (mapN (one n.a h') l) (mapN (one n.a h') r) = _
        rw [mapN_off fun z => hN.1 (List.mem_append_left _ z), mapN_off fun z => hN.1 (List.mem_append_right _ z)]
        unfold one
        rw [if_pos rfl]
      rw [e0]
      exact ⟨⟨dn, upd_same⟩, hl.keep f fun b hb z => hN.1 (by rw [← List.mem_singleton.mp z]; exact List.mem_append_left _ hb), hr.keep f fun b hb z => hN.1 (by rw [← List.mem_singleton.mp z]; exact List.mem_append_right _ hb)⟩
    · have e1 : one a h' n = n := by
        unfold one
        rw [if_neg c]
      have ha2 : a ∈ Tre.addrs l ++ Tre.addrs r := (List.mem_cons.mp ha).elim (fun z => absurd z.symm c) id
      rcases List.mem_append.mp ha2 with z | z
      · obtain ⟨dx, i, w, h, x, l', r', k, e, t2⟩ := TAt.home (h' := h') hl n1 z
        refine ⟨dx, i, w, h, x, l', r', k, e, ?_⟩
        have f : Frame [a] H (upd H a (.ins C dx (nf i w h' x l' r' k))) := Frame.wr (List.mem_singleton.mpr rfl)
        show TAt C _ (.nd (one a h' n) (mapN (one a h') l) (mapN (one a h') r)) ab
        rw [e1, mapN_off (n3 a z)]
        refine ⟨⟨dn, ?_⟩, t2, hr.keep f fun b hb q => n3 a z (by rw [← List.mem_singleton.mp q]; exact hb)⟩
        rw [upd_ne c, rl]
        exact en
      · have zl : a ∉ Tre.addrs l := fun q => n3 a q z
        obtain ⟨dx, i, w, h, x, l', r', k, e, t2⟩ := TAt.home (h' := h') hr n2 z
        refine ⟨dx, i, w, h, x, l', r', k, e, ?_⟩
        have f : Frame [a] H (upd H a (.ins C dx (nf i w h' x l' r' k))) := Frame.wr (List.mem_singleton.mpr rfl)
        show TAt C _ (.nd (one a h' n) (mapN (one a h') l) (mapN (one a h') r)) ab
        rw [e1, mapN_off zl]
        refine ⟨⟨dn, ?_⟩, hl.keep f fun b hb q => zl (by rw [← List.mem_singleton.mp q]; exact hb), t2⟩
        rw [upd_ne c, rr]
        exact en
theorem TAt.sub : ∀ {t : Tre} {ab : V} {x : Nd × Tre × Tre}, TAt C H t ab → x ∈ subs t → ∃ y, TAt C H (.nd x.1 x.2.1 x.2.2) y
  | .nil, _, _, _, h => by cases h
  | .nd n l r, ab, x, ht, h => by
    rcases List.mem_cons.mp h with z | z
    · rw [z]
      exact ⟨ab, ht⟩
    · rcases List.mem_append.mp z with z | z
      · exact TAt.sub ht.2.1 z
      · exact TAt.sub ht.2.2 z
theorem TAt.dat : ∀ {t : Tre} {ab : V} {d : Dat}, TAt C H t ab → d ∈ dats t → ∃ x l r k dx, H d.a = some (.ins C dx (nf (d.i : Int) d.w d.h x l r k))
  | .nil, _, _, _, h => by cases h
  | .nd n l r, ab, d, ht, h => by
    rw [dats_nd] at h
    rcases List.mem_cons.mp h with z | z
    · rw [z]
      obtain ⟨dd, e⟩ := ht.1
      exact ⟨_, _, _, _, dd, e⟩
    · rcases List.mem_append.mp z with z | z
      · exact TAt.dat ht.2.1 z
      · exact TAt.dat ht.2.2 z
/-- new objects are handed over to the others -/
theorem Fd.ext (F : Fd C D H0 H p S) (sm : Same H H') (N : List Addr) (hN : ∀ b ∈ N, H b = none) : Fd C D (fun b => if b ∈ N then H' b else H0 b) H' p S := by
  obtain ⟨G, dx, lt, ln, A⟩ := F
  have off : ∀ b o, H b = some o → (fun b => if b ∈ N then H' b else H0 b) b = H0 b := fun b o e => if_neg fun z => by
    rw [hN b z] at e
    cases e
  refine ⟨G, dx, lt, ln, fun b o hb => ?_, (off _ _ A.ob).trans A.p0, (off _ _ A.lts).trans A.t0, (off _ _ A.lns).trans A.n0, sm _ _ A.ob, sm _ _ A.lts, sm _ _ A.lns, A.ne, fun t ht => ?_⟩
  · by_cases c : b ∈ N
    · rw [if_pos c] at hb
      exact hb
    · rw [if_neg c] at hb
      exact sm _ _ (A.same b o hb)
  · have q := A.tr t ht
    refine ⟨q.1.same sm, fun b hb => ?_⟩
    obtain ⟨dd, fs, e⟩ := q.1.there b hb
    exact (off b _ e).trans (q.2 b hb)
end
section
variable {P : Program} {w : World} {K : PySem.W.Frag} {mg : Str → Option Value} {base : Heap}
/-- the rows of a told tree: a list at L of new tuples -/
structure Told (H1 : Hp) (L : Addr) (as : List Addr) (s : Tre) : Prop where
  lst : H1 L = some (.lst (as.map V.ref))
  len : as.length = (subs s).length
  row : ∀ (k : Nat) (a : Addr), as[k]? = some a → ∃ x, (subs s)[k]? = some x ∧ H1 a = some (.tup (rowOf x))
def sp_tree (C D eN : Addr) : Sp := fun vs H Q E => ∃ (H0 : Hp) (p : Addr) (S : Fs) (h : Int), vs = [.ref p, .int h] ∧ Fd C D H0 H p S ∧ h.natAbs.log2 < 1920 ∧
  (∀ (j : Nat) (s : Tre), h = (j : Int) → S.ts[j]? = some s → ∀ H1 H' L as, Same H0 H1 → H0 L = none → Told H1 L as s → Fd C D H1 H' p S → Q (.ref L) H') ∧ (¬ InH S h → E (.ref eN) none H)
theorem ok_tree (T : Txt K mg) : FnOk P w K mg base (L2.CX P w) 2 T.a_Field_tree T.d_Field_tree ["self", "heap"] (sp_tree T.c_Node T.c_Field T.e_NoHeap) := by
  have G_Field_check_heap : FnOk P w K mg base (L2.CX P w) 1 _ _ _ _ := ok_check T
  have G_in_order : FnOk P w K mg base CX0 1 _ _ _ _ := ok_in_order T
  have G_thing_of : FnOk P w K mg base CX0 1 _ _ _ _ := ok_thing_of T
  refine T.F_Field_tree.okX sc_Field_tree (fun vs H Q E h => ?_) (fun cdv A outer s H vs Q E hr h => ?_)
  · obtain ⟨H0, p, S, h, rfl, _⟩ := h
    rfl
  · obtain ⟨H0, p, S, h, rfl, ⟨G, dx, lt, ln, F⟩, hl, k1, k3⟩ := h
    refine ⟨_, (pss_cons (ps_expr (pe_meth (pv 0) T.cl_Field T.m_Field_check_heap G_Field_check_heap hr T.b_Field_check_heap .nil (E := E) (passes_call (takes_of rfl rfl rfl rfl) (fun _ _ _ _ h => h)) (pa_cons (pv 1) pa_nil)))
  (pss_one (ps_ret (pe_lc (own := [("node", 2)]) (by rfl) sc_Field_tree.nd (pi_list (pe_call G_in_order hr rfl T.g_in_order T.F_in_order.kp T.b_in_order .nil pass0 (pa_cons (pe_ix ix_list (pe_fld (pv 0) rfl) (pv 1) (fun _ _ => rfl)) pa_nil))) (blkOk_by (N := N_Field_tree) (sc := defScope s_Field_tree) (by decide +kernel)) (fun _ _ _ _ _ => (pg_name (i := 2) sc_Field_tree.nd rfl (.inl rfl))) (fun _ _ _ _ _ => pts_nil) (fun _ _ _ _ _ => (pe_tup (pa_cons (pe_fldK (K := K) rfl (pv 2) rfl) (pa_cons (pe_fldK (K := K) rfl (pv 2) rfl) (pa_cons (pe_call G_thing_of hr rfl T.g_thing_of T.F_thing_of.kp T.b_thing_of .nil pass0 (pa_cons (pe_fldK (K := K) rfl (pv 2) rfl) pa_nil)) (pa_cons (pe_call G_thing_of hr rfl T.g_thing_of T.F_thing_of.kp T.b_thing_of .nil pass0 (pa_cons (pe_fldK (K := K) rfl (pv 2) rfl) pa_nil)) (pa_cons (pe_fldK (K := K) rfl (pv 2) rfl) pa_nil))))))))))), ?_⟩
    refine ⟨_, rfl, p, dx, _, rfl, F.ob, ff_no (by decide +kernel) (by decide +kernel) (by decide +kernel), _, rfl, H0, p, dx, lt, ln, S, h, rfl, F, fun h0 h1 => ?_, fun hb => ⟨hl, k3 hb⟩⟩
    obtain ⟨j, rfl⟩ := Int.eq_ofNat_of_zero_le h0
    have hj : j < S.ts.length := by omega
    obtain ⟨s, hs⟩ : ∃ s, S.ts[j]? = some s := ⟨S.ts[j], List.getElem?_eq_getElem hj⟩
    have tt := (F.tr _ (get_mem hs)).1
    have hsz := G.size hs
    have hln := G.len
    refine ⟨_, rfl, p, T.c_Field, dx, _, _, rfl, F.ob, T.cl_Field, T.n_Field_tops, ff_tops, _, rfl, lt, _, _, _, rfl, rfl, SqL.of F.lts, at_of (j := j) rfl (by rw [List.getElem?_map, hs]; rfl), s, _, rfl, tt, by omega, fun H1 q sm hq hq1 => ?_⟩
    have hlen : (refs s.nodes).length = (subs s).length := by
      unfold refs
      rw [List.length_map, ← subs_nodes, List.length_map]
    have hsl : (subs s).length = s.size := by
      rw [← hlen]
      unfold refs
      rw [List.length_map, size_nodes]
    refine ⟨q, rfl, ⟨_, SqL.of hq1⟩, fun D hD => lc_list (K := K) (a := q) (xs := refs s.nodes) (fun i H' => Same H1 H' ∧ ∃ as : List Addr, as.length = i ∧ H' D = some (.lst (as.map V.ref)) ∧ (∀ b ∈ as, H1 b = none) ∧
        ∀ (k : Nat) (a : Addr), as[k]? = some a → ∃ x, (subs s)[k]? = some x ∧ H' a = some (.tup (rowOf x)))
      ⟨same_new hD, [], rfl, upd_same, (fun b hb => by cases hb), fun k a h => by simp at h⟩ (fun i H' _ ⟨s1, _⟩ => SqL.of (s1 _ _ hq1)) ?_ ?_⟩
    · rintro i v H2 hi ⟨s1, as, hlas, hD2, hn, hrow⟩
      have hil : i < (subs s).length := by
        rw [← hlen]
        exact get_len hi
      obtain ⟨x, hx⟩ : ∃ x, (subs s)[i]? = some x := ⟨(subs s)[i], List.getElem?_eq_getElem hil⟩
      have ev : v = .ref x.1.a := by
        unfold refs at hi
        rw [← subs_nodes, List.map_map, List.getElem?_map, hx] at hi
        exact (Option.some.inj hi).symm
      subst ev
      obtain ⟨n, l, r⟩ := x
      obtain ⟨y, ⟨dn, en⟩, hl2, hr2⟩ := tt.sub (get_mem hx)
      have en2 := s1 _ _ (sm _ _ en)
      have hl3 := (hl2.same sm).same s1
      have hr3 := (hr2.same sm).same s1
      refine ⟨rfl, ?_⟩
      refine ⟨_, rfl, n.a, T.c_Node, dn, _, _, rfl, en2, T.cl_Node, T.n_Node_thing, nf_thing, _, rfl, n.a, T.c_Node, dn, _, _, rfl, en2, T.cl_Node, T.n_Node_weight, nf_weight, ?_⟩
      refine ⟨_, rfl, n.a, T.c_Node, dn, _, _, rfl, en2, T.cl_Node, T.n_Node_left, nf_left, l, _, rfl, hl3, ?_⟩
      refine ⟨_, rfl, n.a, T.c_Node, dn, _, _, rfl, en2, T.cl_Node, T.n_Node_right, nf_right, r, _, rfl, hr3, ?_⟩
      refine ⟨_, rfl, n.a, T.c_Node, dn, _, _, rfl, en2, T.cl_Node, T.n_Node_run, nf_run, (by show 5 ≤ sizeLine; decide), fun a ha => ?_⟩
      have nDa : D ≠ a := ne_of_none hD2 ha
      have na : ∀ b ∈ as, b ≠ a := fun b hb => by
        obtain ⟨k, hk⟩ := List.mem_iff_getElem?.mp hb
        obtain ⟨_, _, e⟩ := hrow k b hk
        exact ne_of_none e ha
      refine ⟨as.map V.ref, by rw [upd_ne nDa]; exact hD2, by rw [List.length_map]; exact Evl.sz_lt (by omega), fun b o hb => ?_, as ++ [a], by rw [List.length_append, hlas]; rfl, by rw [upd_same, List.map_append]; rfl, fun b hb => ?_, fun k b hk => ?_⟩
      · have h2 := s1 b o hb
        rw [upd_ne (ne_of_none hb hD), upd_ne (ne_of_none h2 ha)]
        exact h2
      · rcases List.mem_append.mp hb with z | z
        · exact hn b z
        · rw [List.mem_singleton.mp z]
          exact s1.free ha
      · by_cases c : k < as.length
        · rw [List.getElem?_append_left c] at hk
          obtain ⟨x, hx1, hx2⟩ := hrow k b hk
          refine ⟨x, hx1, ?_⟩
          have nb : b ≠ D := fun e => by
            rw [e, hD2] at hx2
            cases hx2
          rw [upd_ne nb, upd_ne (na b (get_mem hk))]
          exact hx2
        · have hk2 := get_len hk
          rw [List.length_append, List.length_singleton] at hk2
          have ek : k = as.length := by omega
          rw [ek, List.getElem?_append_right (Nat.le_refl _), Nat.sub_self] at hk
          have eb : b = a := (Option.some.inj hk).symm
          refine ⟨(n, l, r), by rw [ek, hlas]; exact hx, ?_⟩
          rw [eb, upd_ne nDa.symm, upd_same]
          rfl
    · rintro H2 ⟨s1, as, hlas, hD2, hn, hrow⟩
      have F1 : Fd T.c_Node T.c_Field H0 H1 p S := ⟨G, dx, lt, ln, fun b o hb => sm _ _ (F.same b o hb), F.p0, F.t0, F.n0, sm _ _ F.ob, sm _ _ F.lts, sm _ _ F.lns, F.ne, fun t ht => ⟨(F.tr t ht).1.same sm, (F.tr t ht).2⟩⟩
      have hN : ∀ b ∈ D :: as, H1 b = none := fun b hb => (List.mem_cons.mp hb).elim (fun z => by rw [z]; exact hD) (hn b)
      have F2 := F1.ext s1 (D :: as) hN
      have sm0 : Same H0 H1 := F1.same
      refine k1 j s rfl hs _ H2 D as (fun b o hb => ?_) (sm0.free hD) ⟨?_, ?_, fun k a hk => ?_⟩ F2
      · show (if b ∈ D :: as then H2 b else H0 b) = some o
        rw [if_neg fun z => by
          have h2 := sm0 b o hb
          rw [hN b z] at h2
          cases h2]
        exact hb
      · show (if D ∈ D :: as then H2 D else H0 D) = _
        rw [if_pos List.mem_cons_self]
        exact hD2
      · rw [hlas, hlen]
      · obtain ⟨x, h1, h2⟩ := hrow k a hk
        refine ⟨x, h1, ?_⟩
        show (if a ∈ D :: as then H2 a else H0 a) = _
        rw [if_pos (List.mem_cons_of_mem _ (get_mem hk))]
        exact h2
end
/-! ### pouring -/
section
variable {P : Program} {w : World} {K : PySem.W.Frag} {mg : Str → Option Value} {base : Heap}
/-- pour(heap, other) -/
def sp_pour (C D eN eS : Addr) : Sp := fun vs H Q E => ∃ (H0 : Hp) (p : Addr) (S : Fs) (h g : Int), vs = [.ref p, .int h, .int g] ∧ Fd C D H0 H p S ∧ h.natAbs.log2 < 1920 ∧ g.natAbs.log2 < 1920 ∧
  (∀ (j o : Nat), h = (j : Int) → g = (o : Int) → j ≠ o → j < S.ts.length → o < S.ts.length → ∀ H', Fd C D H0 H' p (S.pour j o) → Q .non H') ∧ (¬ InH S h ∨ ¬ InH S g → E (.ref eN) none H) ∧ (InH S h → h = g → E (.ref eS) none H)
theorem ok_pour (T : Txt K mg) : FnOk P w K mg base (L2.CX P w) 26 T.a_Field_pour T.d_Field_pour ["self", "heap", "other"] (sp_pour T.c_Node T.c_Field T.e_NoHeap T.e_Same) := by
  have G_Field_check_heap : FnOk P w K mg base (L2.CX P w) 25 _ _ _ _ := (ok_check T).mono (by decide)
  have G_in_order : FnOk P w K mg base CX0 25 _ _ _ _ := (ok_in_order T).mono (by decide)
  have G_Field_plant : FnOk P w K mg base CX0 25 _ _ _ _ := ok_plant T
  refine T.F_Field_pour.okX sc_Field_pour (fun vs H Q E h => ?_) (fun cdv A outer s H vs Q E hr h => ?_)
  · obtain ⟨H0, p, S, h, g, rfl, _⟩ := h
    rfl
  · obtain ⟨H0, p, S, h, g, rfl, ⟨G, dx, lt, ln, F⟩, hl, hlg, k1, k2, k3⟩ := h
    refine ⟨_, (pss_cons (ps_expr (pe_meth (pv 0) T.cl_Field T.m_Field_check_heap G_Field_check_heap hr T.b_Field_check_heap .nil (E := E) (passes_call (takes_of rfl rfl rfl rfl) (fun _ _ _ _ h => h)) (pa_cons (pv 1) pa_nil)))
  (pss_cons (ps_expr (pe_meth (pv 0) T.cl_Field T.m_Field_check_heap G_Field_check_heap hr T.b_Field_check_heap .nil (E := E) (passes_call (takes_of rfl rfl rfl rfl) (fun _ _ _ _ h => h)) (pa_cons (pv 2) pa_nil)))
  (pss_cons (ps_if (pt_cmpR op_eq (pv 1) (pv 2) (nomark _))
  (pss_one (ps_raise rfl (takes_of rfl rfl rfl rfl) (pmk_ownA PySem.F.excBase_ValueError T.xSame T.gSame T.kSame (raises_own T.bSame T.tSame) rfl (pa_cons (pe_joined (.cons pe_str (.cons (pe_fmt (pv 1)) (.cons pe_str .nil)))) pa_nil))))
  pss_nil)
  (pss_cons (ps_set (i := 3) sc_Field_pour.nd rfl (.inl rfl) (pe_ix ix_list (pe_fld (pv 0) rfl) (pv 2) (fun _ _ => rfl)))
  (pss_cons (ps_for (passes_of rfl) rfl (pi_list (pe_call G_in_order hr rfl T.g_in_order T.F_in_order.kp T.b_in_order .nil pass0 (pa_cons (pv 3) pa_nil))) (pg_name (i := 4) sc_Field_pour.nd rfl (.inl rfl))
  (pss_one (ps_fld (pv 4) (pv 1) rfl)))
  (pss_cons (ps_asg pe_non (pg_sub (pe_fld (pv 0) rfl) (pv 2) set_list))
  (pss_one (ps_fld (pv 0) (pe_meth (pv 0) T.cl_Field T.m_Field_plant G_Field_plant hr T.b_Field_plant .nil pass0 (pa_cons (pv 1) (pa_cons (pe_ix ix_list (pe_fld (pv 0) rfl) (pv 1) (fun _ _ => rfl)) (pa_cons (pv 3) pa_nil)))) rfl)))))))), ?_⟩
    refine ⟨_, rfl, p, dx, _, rfl, F.ob, ff_no (by decide +kernel) (by decide +kernel) (by decide +kernel), _, rfl, H0, p, dx, lt, ln, S, h, rfl, F, fun h0 h1 => ?_, fun hb => ⟨hl, k2 (.inl hb)⟩⟩
    refine ⟨_, rfl, p, dx, _, rfl, F.ob, ff_no (by decide +kernel) (by decide +kernel) (by decide +kernel), _, rfl, H0, p, dx, lt, ln, S, g, rfl, F, fun g0 g1 => ?_, fun hb => ⟨hlg, k2 (.inr hb)⟩⟩
    obtain ⟨j, rfl⟩ := Int.eq_ofNat_of_zero_le h0
    obtain ⟨o, rfl⟩ := Int.eq_ofNat_of_zero_le g0
    have hj : j < S.ts.length := by omega
    have ho : o < S.ts.length := by omega
    obtain ⟨s, hs⟩ : ∃ s, S.ts[j]? = some s := ⟨S.ts[j], List.getElem?_eq_getElem hj⟩
    obtain ⟨u, hu⟩ : ∃ u, S.ts[o]? = some u := ⟨S.ts[o], List.getElem?_eq_getElem ho⟩
    have w1 : (Str.empty ++ ("heap " : Str)).length ≤ 5 := by decide +kernel
    have w2 : (" can't be poured into itself" : Str).length ≤ 28 := by decide +kernel
    refine ⟨_, rfl, _, rfl, rfl, _, rfl, t_2 (fun c => ?_) (fun c => ?_)⟩
    · exact ⟨_, rfl, fits (Nat.le_trans w1 (by decide)), _, rfl, .inr ⟨(j : Int), rfl, hl, _, rfl, fits (Nat.le_trans (app_fits w1 (txt_len hl)) (by decide)), _, rfl, fits (Nat.le_trans (app_fits (app_fits w1 (txt_len hl)) w2) (by decide)), (by show 1 ≤ sizeLine; decide), k3 ⟨h0, h1⟩ (V.int.inj c)⟩⟩
    have hne : j ≠ o := fun e => c (by rw [e])
    have ts := (F.tr _ (get_mem hs)).1
    have tu := (F.tr _ (get_mem hu)).1
    have hln := G.len
    have hsu := G.size hu
    have hss := G.size hs
    have ap := F.apart ts
    have au := F.apart tu
    have n1 := F.pt
    have hNu := G.ndT hu
    have hNs := G.ndT hs
    have hP := G.ndP hs hu hne
    -- poured = self._tops[other]
    refine ⟨_, rfl, p, T.c_Field, dx, _, _, rfl, F.ob, T.cl_Field, T.n_Field_tops, ff_tops, _, rfl, lt, _, _, _, rfl, rfl, SqL.of F.lts, at_of (j := o) rfl (by rw [List.getElem?_map, hu]; rfl), ?_⟩
    -- for node in in_order(poured): node.home = heap
    refine ⟨_, rfl, u, .non, rfl, tu, by omega, fun H1 q sm hq hq1 => ?_⟩
    refine ⟨q, rfl, ⟨_, SqL.of hq1⟩, for_list (K := K) (a := q) (xs := refs u.nodes) (fun i σ H' => ∃ v, σ = [some (.ref p), some (.int (j : Int)), some (.int (o : Int)), some (ref u), v] ∧ H' q = some (.lst (refs u.nodes)) ∧
        TAt T.c_Node H' (homes (j : Int) ((Tre.addrs u).take i) u) .non ∧ Frame (Tre.addrs u) H H') ?_ ?_ ?_ ?_⟩
    · refine ⟨none, rfl, hq1, ?_, Frame.same sm⟩
      rw [List.take_zero, homes_nil]
      exact tu.same sm
    · rintro i σ H' hi ⟨v, _, e, _⟩
      exact SqL.of e
    · rintro i x σ H' hi ⟨v, rfl, e1, e2, e3⟩
      obtain ⟨n, hn, rfl⟩ : ∃ n, u.nodes[i]? = some n ∧ x = .ref n.a := by
        unfold refs at hi
        rw [List.getElem?_map] at hi
        cases hh : u.nodes[i]? with
        | none => rw [hh] at hi; cases hi
        | some n =>
          rw [hh] at hi
          exact ⟨n, rfl, (Option.some.inj hi).symm⟩
      have hna : (Tre.addrs u)[i]? = some n.a := by rw [addrs_nodes, List.getElem?_map, hn]; rfl
      have hmem : n.a ∈ Tre.addrs u := get_mem hna
      have hN2 : (Tre.addrs (homes (j : Int) ((Tre.addrs u).take i) u)).Nodup := by
        unfold homes
        rw [mapN_addrs homes_a]
        exact hNu
      obtain ⟨dx', i', w', h', x', l', r', k', en, t2⟩ := TAt.home (h' := (j : Int)) e2 hN2 (by unfold homes; rw [mapN_addrs homes_a]; exact hmem)
      have nq : q ≠ n.a := fun z => tu.ne hq (by rw [z]; exact hmem)
      refine ⟨_, rfl, _, rfl, n.a, T.c_Node, dx', _, rfl, en, T.cl_Node, T.n_Node_home, nf_len, ?_⟩
      rw [put_home]
      refine ⟨_, rfl, ?_, ?_, e3.trans (Frame.wr hmem)⟩
      · rw [upd_ne nq]
        exact e1
      · rw [homes_snoc] at t2
        have e4 : (Tre.addrs u).take (i + 1) = (Tre.addrs u).take i ++ [n.a] := by
          rw [List.take_succ, hna]
          rfl
        rw [e4]
        exact t2
    rintro σ H2 ⟨v, rfl, e1, e2, f2⟩
    have eu : homes (j : Int) ((Tre.addrs u).take (refs u.nodes).length) u = homed j u := by
      have e : (refs u.nodes).length = (Tre.addrs u).length := by
        unfold refs
        rw [addrs_nodes, List.length_map, List.length_map]
      rw [e, List.take_length]
      exact homes_all j _ u fun b hb => hb
    rw [eu] at e2
    have p2 : H2 p = some (.ins T.c_Field dx (ff lt ln S.wk)) := f2 _ _ F.ob au.1
    have l2 : H2 lt = some (.lst (S.ts.map ref)) := f2 _ _ F.lts au.2.1
    have ln2 : H2 ln = some (.lst S.ns) := f2 _ _ F.lns au.2.2
    have s2 : TAt T.c_Node H2 s .non := ts.keep f2 hP
    -- self._tops[other] = None
    have ho2 : o < (S.ts.map ref).length := by rw [List.length_map]; exact ho
    refine ⟨_, rfl, p, T.c_Field, dx, _, _, rfl, p2, T.cl_Field, T.n_Field_tops, ff_tops, _, rfl, lt, _, _, o, rfl, rfl, l2, Evl.ixN_nat ho2, ?_⟩
    generalize hH3 : upd H2 lt (.lst ((S.ts.map ref).set o .non)) = H3
    have f3 : Frame [lt] H2 H3 := by
      rw [← hH3]
      exact Frame.wr (List.mem_singleton.mpr rfl)
    have p3 : H3 p = some (.ins T.c_Field dx (ff lt ln S.wk)) := f3 _ _ p2 fun z => n1.1 (List.mem_singleton.mp z)
    have ln3 : H3 ln = some (.lst S.ns) := f3 _ _ ln2 fun z => F.ne (List.mem_singleton.mp z).symm
    have l3 : H3 lt = some (.lst ((S.ts.set o .nil).map ref)) := by
      rw [← hH3, upd_same, List.map_set]
      rfl
    have s3 : TAt T.c_Node H3 s .non := s2.keep f3 fun b hb z => ap.2.1 (by rw [← List.mem_singleton.mp z]; exact hb)
    have u3 : TAt T.c_Node H3 (homed j u) .non := e2.keep f3 fun b hb z => au.2.1 (by rw [homed_addrs] at hb; rw [← List.mem_singleton.mp z]; exact hb)
    have F3 : FAt T.c_Node T.c_Field H0 H3 p dx lt ln ⟨S.ts.set o .nil, S.ns, S.wk⟩ := by
      refine F.repl G.nd hu [] (fun b hb => by cases hb) ?_ p3 l3 ln3 trivial fun b hb => by cases hb
      rw [List.append_nil]
      exact (f2.mono fun b hb => List.mem_cons_of_mem _ (List.mem_cons_of_mem _ (List.mem_cons_of_mem _ hb))).trans (f3.mono fun b hb => by rw [List.mem_singleton.mp hb]; simp)
    have hs3 : (S.ts.set o .nil)[j]? = some s := by
      rw [List.getElem?_set_ne (Ne.symm hne)]
      exact hs
    have hsp : s.spine + (homed j u).spine ≤ 20 := by
      have h1 := spine_le (G.lo s (get_mem hs)) (by omega)
      have h2 := spine_le (homed_LO j (G.lo u (get_mem hu))) (by
        rw [← size_dats, homed_dats, List.length_map, size_dats]
        omega)
      omega
    have hN3 : (Tre.addrs s ++ Tre.addrs (homed j u)).Nodup := by
      rw [homed_addrs]
      exact List.nodup_append.mpr ⟨hNs, hNu, fun x hx y hy e => hP x hx (by rw [e]; exact hy)⟩
    -- self._work = self._plant(heap, self._tops[heap], poured)
    have eref : ref u = ref (homed j u) := by
      cases u with
      | nil => rfl
      | nd n l r => rfl
    refine ⟨_, rfl, p, dx, _, rfl, p3, ff_no (by decide +kernel) (by decide +kernel) (by decide +kernel), _, rfl, _, rfl, p, T.c_Field, dx, _, _, rfl, p3, T.cl_Field, T.n_Field_tops, ff_tops, _, rfl, lt, _, _, _, rfl, rfl, SqL.of l3, at_of (j := j) rfl (by rw [List.getElem?_map, hs3]; rfl), _, rfl, ?_⟩
    refine ⟨p, dx, lt, ln, S.wk, _, j, s, homed j u, .non, .non, by rw [eref]; rfl, p3, l3, by rw [List.length_map]; exact get_len hs3, s3, u3, hN3, hsp, fun H4 t4 l4 f4 => ?_⟩
    rw [homed_addrs] at f4
    have out : ∀ b, b ∉ Tre.addrs s → b ∉ Tre.addrs u → b ≠ lt → b ∉ lt :: (Tre.addrs s ++ Tre.addrs u) := fun b h1 h2 h3 z => by
      rcases List.mem_cons.mp z with z | z
      · exact h3 z
      · exact (List.mem_append.mp z).elim h1 h2
    have p4 : H4 p = some (.ins T.c_Field dx (ff lt ln S.wk)) := f4 _ _ p3 (out p ap.1 au.1 n1.1)
    have ln4 : H4 ln = some (.lst S.ns) := f4 _ _ ln3 (out ln ap.2.2 au.2.2 F.ne.symm)
    refine ⟨_, rfl, p, T.c_Field, dx, _, rfl, p4, T.cl_Field, T.n_Field_work, ff_len, ?_⟩
    rw [ff_put]
    generalize hH5 : upd H4 p (.ins T.c_Field dx (ff lt ln ((join s (homed j u)).2 : Int))) = H5
    have f5 : Frame [p] H4 H5 := by
      rw [← hH5]
      exact Frame.wr (List.mem_singleton.mpr rfl)
    have jin : ∀ b, b ∈ Tre.addrs (join s (homed j u)).1 → b ∈ Tre.addrs s ∨ b ∈ Tre.addrs u := fun b hb => by
      have := (join_addrs _ _).mem_iff.mp hb
      rw [homed_addrs] at this
      exact List.mem_append.mp this
    have t5 : TAt T.c_Node H5 (join s (homed j u)).1 .non := t4.keep f5 fun b hb z => (jin b hb).elim (fun q => ap.1 (by rw [← List.mem_singleton.mp z]; exact q)) fun q => au.1 (by rw [← List.mem_singleton.mp z]; exact q)
    have hnd3 : ((S.ts.set o .nil).flatMap Tre.addrs ++ Tre.addrs u).Nodup := by
      have := flat_set (t := .nil) hu
      rw [addrs_nil, List.append_nil] at this
      exact this.nodup_iff.mpr G.nd
    refine k1 j o rfl rfl hne hj ho H5 ⟨G.pour hs hu hne, dx, lt, ln, ?_⟩
    unfold Fs.pour
    rw [getD_of hs, getD_of hu]
    refine F3.repl (List.nodup_append.mp hnd3).1 hs3 (Tre.addrs u) (fun b hb => ⟨(F.tr _ (get_mem hu)).2 b hb, fun z => (List.nodup_append.mp hnd3).2.2 b z b hb rfl⟩) ?_ ?_ ?_ ?_ t5 fun b hb => ?_
    · have m4 : Frame (p :: lt :: ln :: (Tre.addrs s ++ Tre.addrs u)) H3 H4 := f4.mono fun b hb => by
        rcases List.mem_cons.mp hb with z | z
        · rw [z]
          simp
        · exact List.mem_cons_of_mem _ (List.mem_cons_of_mem _ (List.mem_cons_of_mem _ z))
      exact m4.trans (f5.mono fun b hb => by rw [List.mem_singleton.mp hb]; exact List.mem_cons_self)
    · rw [← hH5, upd_same]
    · rw [f5 _ _ l4 fun z => n1.1 (List.mem_singleton.mp z).symm]
      show _ = some (HO.lst (((S.ts.set o .nil).set j (join s (homed j u)).1).map ref))
      rw [List.map_set (i := j)]
    · exact f5 _ _ ln4 fun z => n1.2 (List.mem_singleton.mp z).symm
    · exact jin b hb
end
/-! ### sinking -/
section
variable {P : Program} {w : World} {K : PySem.W.Frag} {mg : Str → Option Value} {base : Heap}
/-- sink(thing, weight) -/
def sp_sink (C D eT eH : Addr) : Sp := fun vs H Q E => ∃ (H0 : Hp) (p : Addr) (S : Fs) (i w : Int), vs = [.ref p, .int i, .int w] ∧ Fd C D H0 H p S ∧ i.natAbs.log2 < 1920 ∧
  (∀ (k j : Nat) (n : Nd) (l r : Tre) (fs : List Up), i = (k : Int) → S.ts[j]? = some (plug (.nd n l r) fs) → n.i = k → w ≤ n.w → ∀ H', Fd C D H0 H' p (S.sink j n l r w fs) → Q .non H') ∧
  (∀ (k j : Nat) (s : Tre) (d : Dat), i = (k : Int) → S.ts[j]? = some s → d ∈ dats s → d.i = k → d.w < w → (w.natAbs.log2 < 1920 ∧ d.w.natAbs.log2 < 1920) ∧ E (.ref eH) none H) ∧
  ((∀ (k : Nat) (a : Addr), i = (k : Int) → S.ns[k]? ≠ some (.ref a)) → E (.ref eT) none H)
theorem ok_sink (T : Txt K mg) : FnOk P w K mg base (L2.CX P w) 26 T.a_Field_sink T.d_Field_sink ["self", "thing", "weight"] (sp_sink T.c_Node T.c_Field T.e_NoThing T.e_Heavier) := by
  have G_Field_node : FnOk P w K mg base (L2.CX P w) 25 _ _ _ _ := (ok_node T).mono (by decide)
  have G_lesser : FnOk P w K mg base CX0 25 _ _ _ _ := (ok_lesser T).mono (by decide)
  have G_cut_out : FnOk P w K mg base CX0 25 _ _ _ _ := (ok_cut_out T).mono (by decide)
  have G_Field_plant : FnOk P w K mg base CX0 25 _ _ _ _ := ok_plant T
  refine T.F_Field_sink.okX sc_Field_sink (fun vs H Q E h => ?_) (fun cdv A outer s H vs Q E hr h => ?_)
  · obtain ⟨H0, p, S, i, w, rfl, _⟩ := h
    rfl
  · obtain ⟨H0, p, S, i, w, rfl, ⟨G, dx, lt, ln, F⟩, hl, k1, k2, k3⟩ := h
    refine ⟨_, (pss_cons (ps_set (i := 3) sc_Field_sink.nd rfl (.inl rfl) (pe_meth (pv 0) T.cl_Field T.m_Field_node G_Field_node hr T.b_Field_node .nil (E := E) (passes_call (takes_of rfl rfl rfl rfl) (fun _ _ _ _ h => h)) (pa_cons (pv 1) pa_nil)))
  (pss_cons (ps_if (pt_cmpR op_gt (pv 2) (pe_fld (pv 3) rfl) (nomark _))
  (pss_one (ps_raise rfl (takes_of rfl rfl rfl rfl) (pmk_ownA PySem.F.excBase_ValueError T.xHeavier T.gHeavier T.kHeavier (raises_own T.bHeavier T.tHeavier) rfl (pa_cons (pe_joined (.cons pe_str (.cons (pe_fmt (pv 1)) (.cons pe_str (.cons (pe_fmt (pe_fld (pv 3) rfl)) (.cons pe_str (.cons (pe_fmt (pv 2)) .nil))))))) pa_nil))))
  pss_nil)
  (pss_cons (ps_fld (pv 3) (pv 2) rfl)
  (pss_cons (ps_fld (pv 0) pe_int rfl)
  (pss_one (ps_if (PW.pt (pw_and (pt_cmpR op_notN (pe_fld (pv 3) rfl) pe_non (nomark _)) (pw_and1 (pt_val (pe_call G_lesser hr rfl T.g_lesser T.F_lesser.kp T.b_lesser .nil pass0 (pa_cons (pv 3) (pa_cons (pe_fld (pv 3) rfl) pa_nil)))))))
  (pss_cons (ps_set (i := 4) sc_Field_sink.nd rfl (.inl rfl) (pe_call G_cut_out hr rfl T.g_cut_out T.F_cut_out.kp T.b_cut_out .nil pass0 (pa_cons (pv 3) pa_nil)))
  (pss_one (ps_fld (pv 0) (pe_op op_add (pv 4) (pe_meth (pv 0) T.cl_Field T.m_Field_plant G_Field_plant hr T.b_Field_plant .nil pass0 (pa_cons (pe_fld (pv 3) rfl) (pa_cons (pe_ix ix_list (pe_fld (pv 0) rfl) (pe_fld (pv 3) rfl) (fun _ _ => rfl)) (pa_cons (pv 3) pa_nil))))) rfl)))
  pss_nil)))))), ?_⟩
    refine ⟨_, rfl, p, dx, _, rfl, F.ob, ff_no (by decide +kernel) (by decide +kernel) (by decide +kernel), _, rfl, H0, p, dx, lt, ln, S, i, rfl, F, G, hl, fun k a e h => ?_, k3⟩
    obtain ⟨j, s, d, hs, hd, e1, e2⟩ := G.back k a h
    have k2' := k2 k j s d e hs hd e1
    obtain ⟨n, l, r, fs, es, en⟩ := place s d hd
    subst en es
    have ea : n.a = a := e2
    subst ea
    have ei : n.i = k := e1
    have tt := (F.tr _ (get_mem hs)).1
    have ap := F.apart tt
    have n1 := F.pt
    have hNs := G.ndT hs
    have hhome : n.h = j := (G.home j _ hs n.dat hd).1
    have hln := G.len
    have hss := G.size hs
    have hN1 := (plug_addrs fs (.nd n l r)).nodup_iff.mp hNs
    obtain ⟨hNn, hNu, hdj⟩ := nodup_app hN1
    obtain ⟨h1, h2⟩ := (plug_at fs (.nd n l r)).mp tt
    obtain ⟨⟨dn, en⟩, hL, hR⟩ := id h1
    have na : n.a ∈ Tre.addrs (.nd n l r) := by rw [addrs_nd]; exact List.mem_cons_self
    have inS : ∀ b, b ∈ Tre.addrs (.nd n l r) ++ upAddrs fs → b ∈ Tre.addrs (plug (.nd n l r) fs) := fun b hb => (plug_addrs fs (.nd n l r)).mem_iff.mpr hb
    have naS := inS n.a (List.mem_append_left _ na)
    -- if weight > node.weight
    refine ⟨_, rfl, _, rfl, n.a, T.c_Node, dn, _, _, rfl, en, T.cl_Node, T.n_Node_weight, nf_weight, _, _, rfl, rfl, _, rfl, t_2 (fun c => ?_) (fun c => ?_)⟩
    · obtain ⟨⟨hw, hd⟩, kE⟩ := k2' c
      have hd : n.w.natAbs.log2 < 1920 := hd
      have w1 : (Str.empty ++ ("thing " : Str)).length ≤ 6 := by decide +kernel
      have w2 : (" has a weight of " : Str).length ≤ 17 := by decide +kernel
      have w3 : (", which is less than " : Str).length ≤ 21 := by decide +kernel
      have s1 := app_fits w1 (txt_len hl)
      have s2 := app_fits s1 w2
      have s3 := app_fits s2 (txt_len hd)
      have s4 := app_fits s3 w3
      have s5 := app_fits s4 (txt_len hw)
      exact ⟨_, rfl, fits (Nat.le_trans w1 (by decide)), _, rfl, .inr ⟨i, rfl, hl, _, rfl, fits (Nat.le_trans s1 (by decide)), _, rfl, fits (Nat.le_trans s2 (by decide)), _, rfl, n.a, T.c_Node, dn, _, _, rfl, en, T.cl_Node, T.n_Node_weight, nf_weight,
        .inr ⟨n.w, rfl, hd, _, rfl, fits (Nat.le_trans s3 (by decide)), _, rfl, fits (Nat.le_trans s4 (by decide)), _, rfl, .inr ⟨w, rfl, hw, _, rfl, fits (Nat.le_trans s5 (by decide)), (by show 1 ≤ sizeLine; decide), kE⟩⟩⟩⟩
    have hw : w ≤ n.w := by omega
    -- node.weight = weight
    refine ⟨_, rfl, _, rfl, n.a, T.c_Node, dn, _, rfl, en, T.cl_Node, T.n_Node_weight, nf_len, ?_⟩
    rw [put_weight]
    generalize hH1 : upd H n.a (.ins T.c_Node dn (nf n.i w n.h (abv fs) (ref l) (ref r) n.k)) = H1
    have f1 : Frame [n.a] H H1 := by
      rw [← hH1]
      exact Frame.wr (List.mem_singleton.mpr rfl)
    have hNn' := hNn
    rw [addrs_nd, List.nodup_cons] at hNn'
    have t1 : TAt T.c_Node H1 (.nd { n with w := w } l r) (abv fs) := by
      refine ⟨⟨dn, ?_⟩, hL.keep f1 fun b hb z => hNn'.1 (by rw [← List.mem_singleton.mp z]; exact List.mem_append_left _ hb), hR.keep f1 fun b hb z => hNn'.1 (by rw [← List.mem_singleton.mp z]; exact List.mem_append_right _ hb)⟩
      rw [← hH1]
      exact upd_same
    have u1 : UAt T.c_Node H1 (.ref n.a) fs := UAt.keep (show UAt T.c_Node H (.ref n.a) fs from h2) f1 fun b hb z => hdj n.a na (by rw [← List.mem_singleton.mp z]; exact hb)
    have off : ∀ b, b ∉ Tre.addrs (plug (.nd n l r) fs) → b ∉ [n.a] := fun b hb z => hb (by rw [List.mem_singleton.mp z]; exact naS)
    have p1 : H1 p = some (.ins T.c_Field dx (ff lt ln S.wk)) := f1 _ _ F.ob (off _ ap.1)
    have l1 : H1 lt = some (.lst (S.ts.map ref)) := f1 _ _ F.lts (off _ ap.2.1)
    have ln1 : H1 ln = some (.lst S.ns) := f1 _ _ F.lns (off _ ap.2.2)
    -- self._work = 0
    refine ⟨_, rfl, p, T.c_Field, dx, _, rfl, p1, T.cl_Field, T.n_Field_work, ff_len, ?_⟩
    rw [ff_put]
    generalize hH2 : upd H1 p (.ins T.c_Field dx (ff lt ln 0)) = H2
    have f2 : Frame [p] H1 H2 := by
      rw [← hH2]
      exact Frame.wr (List.mem_singleton.mpr rfl)
    have pS : ∀ b, b ∈ Tre.addrs (plug (.nd n l r) fs) → b ∉ [p] := fun b hb z => ap.1 (by rw [← List.mem_singleton.mp z]; exact hb)
    have t2 : TAt T.c_Node H2 (.nd { n with w := w } l r) (abv fs) := t1.keep f2 fun b hb => pS b (inS b (List.mem_append_left _ hb))
    have u2 : UAt T.c_Node H2 (.ref n.a) fs := u1.keep f2 fun b hb => pS b (inS b (List.mem_append_right _ hb))
    have p2 : H2 p = some (.ins T.c_Field dx (ff lt ln 0)) := by rw [← hH2, upd_same]
    have l2 : H2 lt = some (.lst (S.ts.map ref)) := f2 _ _ l1 fun z => n1.1 (List.mem_singleton.mp z).symm
    have ln2 : H2 ln = some (.lst S.ns) := f2 _ _ ln1 fun z => n1.2 (List.mem_singleton.mp z).symm
    have f12 : Frame (p :: lt :: ln :: (Tre.addrs (plug (.nd n l r) fs) ++ [])) H H2 := by
      rw [List.append_nil]
      exact (f1.mono fun b hb => by rw [List.mem_singleton.mp hb]; exact List.mem_cons_of_mem _ (List.mem_cons_of_mem _ (List.mem_cons_of_mem _ naS))).trans (f2.mono fun b hb => by rw [List.mem_singleton.mp hb]; exact List.mem_cons_self)
    obtain ⟨⟨dn2, en2⟩, _, _⟩ := id t2
    have same_addrs : Tre.addrs (.nd { n with w := w } l r) = Tre.addrs (.nd n l r) := by rw [addrs_nd, addrs_nd]
    -- the thing stays where it is
    have stay : sunk n l r w fs = (plug (.nd { n with w := w } l r) fs, 0) → ∀ H3, Same H2 H3 → Q .non H3 := fun e H3 sm => by
      refine k1 k j n l r fs ‹_› hs ei hw H3 ⟨G.sink hs hw, dx, lt, ln, ?_⟩
      unfold Fs.sink
      rw [e]
      have er : ref (plug (.nd { n with w := w } l r) fs) = ref (plug (.nd n l r) fs) := ref_plug fs _ _ (.inr rfl)
      refine F.repl G.nd hs [] (fun b hb => by cases hb) (f12.trans (Frame.same sm)) (sm _ _ p2) ?_ (sm _ _ ln2) (TAt.same ((plug_at fs _).mpr ⟨t2, u2⟩) sm) fun b hb => .inl ?_
      · rw [sm _ _ l2, List.map_set, er]
        refine congrArg (fun q => some (HO.lst q)) ?_
        have z : (S.ts.map ref)[j]? = some (ref (plug (.nd n l r) fs)) := by rw [List.getElem?_map, hs]; rfl
        obtain ⟨zl, ze⟩ := List.getElem?_eq_some_iff.mp z
        rw [← ze, List.set_getElem_self]
      · have q := (plug_addrs fs _).mem_iff.mp hb
        rw [same_addrs] at q
        exact inS b q
    -- if node.above is not None and lesser(node, node.above)
    refine ⟨_, rfl, n.a, T.c_Node, dn2, _, _, rfl, en2, T.cl_Node, T.n_Node_above, nf_above, rfl, _, rfl, ?_⟩
    cases fs with
    | nil => exact iteF (iteF (stay rfl H2 fun _ _ e => e))
    | cons f fs =>
    refine iteT ⟨_, rfl, _, rfl, n.a, T.c_Node, dn2, _, _, rfl, en2, T.cl_Node, T.n_Node_above, nf_above, { n with w := w }, f.n, _, _, _, _, _, _, rfl, ⟨dn2, en2⟩, u2.1, fun H3 sm3 => ⟨_, rfl, ?_⟩⟩
    by_cases c2 : Sp.lt { n with w := w } f.n
    · rw [decide_eq_true c2]
      refine iteT ?_
      have t3 : TAt T.c_Node H3 (plug (.nd { n with w := w } l r) (f :: fs)) .non := TAt.same ((plug_at (f :: fs) _).mpr ⟨t2, u2⟩) sm3
      have hN3 : (Tre.addrs (plug (.nd { n with w := w } l r) (f :: fs))).Nodup := (plug_addrs (f :: fs) _).nodup_iff.mpr (by rw [same_addrs]; exact hN1)
      -- looked_at = cut_out(node)
      refine ⟨_, rfl, { n with w := w }, l, r, f, fs, rfl, t3, hN3, fun H4 t4 c4 f4 => ?_⟩
      rw [same_addrs] at f4
      have ou : ∀ b, b ∉ Tre.addrs (plug (.nd n l r) (f :: fs)) → b ∉ Tre.addrs (.nd n l r) ++ upAddrs (f :: fs) := fun b hb z => hb (inS b z)
      have p4 : H4 p = some (.ins T.c_Field dx (ff lt ln 0)) := f4 _ _ (sm3 _ _ p2) (ou _ ap.1)
      have l4 : H4 lt = some (.lst (S.ts.map ref)) := f4 _ _ (sm3 _ _ l2) (ou _ ap.2.1)
      have ln4 : H4 ln = some (.lst S.ns) := f4 _ _ (sm3 _ _ ln2) (ou _ ap.2.2)
      obtain ⟨⟨dn4, en4⟩, _, _⟩ := id t4
      have en4' : H4 n.a = some (.ins T.c_Node dn4 (nf n.i w (j : Int) .non (ref l) (ref r) n.k)) := by
        rw [← hhome]
        exact en4
      have pc : (Tre.addrs (climb .nil (f :: fs)).1).Perm (upAddrs (f :: fs)) := (climb_dats (f :: fs) .nil).map Dat.a
      have hlo := LO_plug (f :: fs) _ (G.lo _ (get_mem hs))
      have hcs : (climb .nil (f :: fs)).1.size ≤ 1000 := by
        have e1 := (climb_dats (f :: fs) .nil).length_eq
        have e2 := (plug_dats (f :: fs) (.nd n l r)).length_eq
        rw [List.length_append] at e1 e2
        rw [size_dats] at e1 e2
        rw [size_dats] at e2
        have e3 : (dats .nil).length = 0 := rfl
        omega
      have hns : (Tre.nd { n with w := w } l r).size ≤ 1000 := by
        have e2 := (plug_dats (f :: fs) (.nd n l r)).length_eq
        rw [List.length_append, size_dats, size_dats] at e2
        show (Tre.nd n l r).size ≤ 1000
        omega
      have hsp : (climb .nil (f :: fs)).1.spine + (Tre.nd { n with w := w } l r).spine ≤ 20 := by
        have h1 := spine_le (climb_LO (f :: fs) .nil _ trivial hlo.2) hcs
        have h2 := spine_le (nd_w_LO w hlo.1) hns
        omega
      have hNj : (Tre.addrs (climb .nil (f :: fs)).1 ++ Tre.addrs (.nd { n with w := w } l r)).Nodup := by
        rw [same_addrs]
        exact ((pc.append_right _).trans List.perm_append_comm).nodup_iff.mpr hN1
      -- self._work = looked_at + self._plant(node.home, self._tops[node.home], node)
      refine ⟨_, rfl, _, rfl, p, dx, _, rfl, p4, ff_no (by decide +kernel) (by decide +kernel) (by decide +kernel), _, rfl, n.a, T.c_Node, dn4, _, _, rfl, en4', T.cl_Node, T.n_Node_home, nf_home,
        _, rfl, p, T.c_Field, dx, _, _, rfl, p4, T.cl_Field, T.n_Field_tops, ff_tops, _, rfl, n.a, T.c_Node, dn4, _, _, rfl, en4', T.cl_Node, T.n_Node_home, nf_home, lt, _, _, _, rfl, rfl, SqL.of l4, at_of (j := j) rfl (by rw [List.getElem?_map, hs]; rfl), _, rfl, ?_⟩
      refine ⟨p, dx, lt, ln, 0, _, j, (climb .nil (f :: fs)).1, .nd { n with w := w } l r, .non, .non, by rw [ref_climb (f :: fs) .nil (.nd n l r) (.inl (by intro z; cases z))]; rfl, p4, l4, by rw [List.length_map]; exact get_len hs, c4, t4, hNj, hsp, fun H5 t5 l5 f5 => ?_⟩
      rw [same_addrs] at f5
      have inJ : ∀ b, b ∈ Tre.addrs (climb .nil (f :: fs)).1 ++ Tre.addrs (.nd n l r) → b ∈ Tre.addrs (plug (.nd n l r) (f :: fs)) := fun b hb => inS b (((pc.append_right _).trans List.perm_append_comm).mem_iff.mp hb)
      have out : ∀ b, b ∉ Tre.addrs (plug (.nd n l r) (f :: fs)) → b ≠ lt → b ∉ lt :: (Tre.addrs (climb .nil (f :: fs)).1 ++ Tre.addrs (.nd n l r)) := fun b h1 h2 z => (List.mem_cons.mp z).elim h2 fun q => h1 (inJ b q)
      have p5 : H5 p = some (.ins T.c_Field dx (ff lt ln 0)) := f5 _ _ p4 (out _ ap.1 n1.1)
      have ln5 : H5 ln = some (.lst S.ns) := f5 _ _ ln4 (out _ ap.2.2 F.ne.symm)
      refine ⟨_, _, rfl, rfl, _, rfl, p, T.c_Field, dx, _, rfl, p5, T.cl_Field, T.n_Field_work, ff_len, ?_⟩
      rw [ff_put, ← Int.natCast_add]
      generalize hH6 : upd H5 p (.ins T.c_Field dx (ff lt ln (((climb .nil (f :: fs)).2 + (join (climb .nil (f :: fs)).1 (.nd { n with w := w } l r)).2 : Nat) : Int))) = H6
      have f6 : Frame [p] H5 H6 := by
        rw [← hH6]
        exact Frame.wr (List.mem_singleton.mpr rfl)
      have jin : ∀ b, b ∈ Tre.addrs (join (climb .nil (f :: fs)).1 (.nd { n with w := w } l r)).1 → b ∈ Tre.addrs (plug (.nd n l r) (f :: fs)) := fun b hb => by
        have := (join_addrs _ _).mem_iff.mp hb
        rw [same_addrs] at this
        exact inJ b this
      have t6 := t5.keep f6 fun b hb => pS b (jin b hb)
      refine k1 k j n l r (f :: fs) ‹_› hs ei hw H6 ⟨G.sink hs hw, dx, lt, ln, ?_⟩
      unfold Fs.sink
      rw [sunk_yes c2]
      refine F.repl G.nd hs [] (fun b hb => by cases hb) ?_ (by rw [← hH6, upd_same]) ?_ ?_ t6 fun b hb => .inl (jin b hb)
      · refine (f12.trans (Frame.same sm3)).trans ((f4.mono fun b hb => ?_).trans ((f5.mono fun b hb => ?_).trans (f6.mono fun b hb => by rw [List.mem_singleton.mp hb]; exact List.mem_cons_self)))
        · rw [List.append_nil]
          exact List.mem_cons_of_mem _ (List.mem_cons_of_mem _ (List.mem_cons_of_mem _ (inS b hb)))
        · rw [List.append_nil]
          rcases List.mem_cons.mp hb with z | z
          · rw [z]
            simp
          · exact List.mem_cons_of_mem _ (List.mem_cons_of_mem _ (List.mem_cons_of_mem _ (inJ b z)))
      · rw [f6 _ _ l5 fun z => n1.1 (List.mem_singleton.mp z).symm, List.map_set]
      · exact f6 _ _ ln5 fun z => n1.2 (List.mem_singleton.mp z).symm
    · rw [decide_eq_false c2]
      exact iteF (stay (sunk_no c2) H3 sm3)
end
/-! ### how long the numbers are -/
def Lt2 (n : Nat) (c : Int) : Prop := c.natAbs < 2 ^ n
theorem Lt2.bits {n : Nat} {z : Int} (h : Builtin.Int.intBits z ≤ n) : Lt2 n z := by
  unfold Lt2
  unfold Builtin.Int.intBits at h
  by_cases c : z.natAbs = 0
  · rw [c]
    exact Nat.two_pow_pos n
  · refine (Nat.log2_lt c).mp ?_
    have hz : ¬ z = 0 := fun e => c (by rw [e]; rfl)
    split at h
    · rename_i e
      exact absurd (by first | exact e | simpa using e) hz
    · omega
theorem Lt2.log {n : Nat} {c : Int} (h : Lt2 n c) (hn : 0 < n) : c.natAbs.log2 < n := by
  by_cases z : c.natAbs = 0
  · rw [z]
    have : Nat.log2 0 = 0 := by decide
    omega
  · exact (Nat.log2_lt z).mpr h
theorem Lt2.toBits {n : Nat} {c : Int} (h : Lt2 n c) (hn : 0 < n) : Builtin.Int.intBits c ≤ n := Nat.le_trans bits_le (h.log hn)
theorem Lt2.mono {n m : Nat} {c : Int} (h : Lt2 n c) (hm : n ≤ m) : Lt2 m c := Nat.lt_of_lt_of_le h (Nat.pow_le_pow_right (by decide) hm)
theorem Lt2.div {n : Nat} {c d : Int} (h : Lt2 n c) (hd : 0 < d) : Lt2 n (c / d) := Nat.lt_of_le_of_lt (fdiv_abs c hd) h
theorem Lt2.add {n : Nat} {a b : Int} (h : Lt2 n a) (g : Lt2 n b) : Lt2 (n + 1) (a + b) := by
  unfold Lt2 at *
  rw [Nat.pow_succ]
  omega
theorem Lt2.small {n : Nat} {c : Int} (h : c.natAbs < 1099511627776) (hn : 40 ≤ n) : Lt2 n c := by
  have e : (1099511627776 : Nat) = 2 ^ 40 := by decide
  rw [e] at h
  exact Lt2.mono h hn
/-- * of two factors of at most two million bits each -/
def CMulC (i j : Int) : Prop := Lt2 2000000 i ∧ Lt2 2000000 j
theorem CMulC.ok {i j : Int} (h : CMulC i j) : IntMulOk i j := by
  have e : bitsLine = 134217728 := by decide
  unfold IntMulOk
  intro z
  rw [Bool.and_eq_true] at z
  have z2 := z.2
  unfold Builtin.Int.intTooBig at z2
  have z3 := of_decide_eq_true z2
  rw [e] at z3
  have := h.1.toBits (by decide)
  have := h.2.toBits (by decide)
  omega
theorem op_mulC {X : Cx} : OpR X (binaryOp .Mult) (rI CMulC fun i j => .int (i * j)) := opI fun _ _ _ _ _ _ _ hc q => mul_int q hc.ok
theorem ten40 : (10 : Int) ^ (40 : Int).toNat = 10000000000000000000000000000000000000000 := by decide +kernel
theorem fig40 {w : Int} (h : w.natAbs ≤ 10000000000000000000000000000000000000000) : w.natAbs.log2 < 1920 := by
  refine Nat.lt_of_le_of_lt (log2_mono h) ?_
  decide +kernel
/-! ### homes as data: a number, or None -/
def hD : Option Nat → PyData
  | none => .none
  | some j => .int (j : Int)
theorem Dp.home {K : PySem.W.Frag} {H : Hp} : ∀ x : Option Nat, Dp K H (hV x) (hD x)
  | Option.none => Dp.non
  | Option.some j => Dp.int (j : Int)
theorem shaped_home : ∀ x : Option Nat, SeqAt.shaped (hD x) = true
  | none => rfl
  | some _ => rfl
theorem eqv_home (x : Option Nat) (j : Nat) : PyData.eqv (hD x) (.int (j : Int)) = decide (x = some j) := by
  cases x with
  | none => rfl
  | some i =>
    show ((i : Int) == (j : Int)) = _
    by_cases c : i = j
    · subst c
      rw [decide_eq_true rfl]
      exact beq_self_eq_true _
    · rw [decide_eq_false fun e => c (Option.some.inj e)]
      refine beq_eq_false_iff_ne.mpr fun e => c ?_
      omega
theorem upd_upd {H : Hp} {a : Addr} {o u : HO} : upd (upd H a o) a u = upd H a u := by
  funext b
  by_cases c : b = a
  · rw [c, upd_same, upd_same]
  · rw [upd_ne c, upd_ne c, upd_ne c]
theorem upd_eq {H H' : Hp} {a : Addr} {o : HO} (h : H' a = some o) (k : ∀ b, b ≠ a → H' b = H b) : H' = upd H a o := by
  funext b
  by_cases c : b = a
  · rw [c, h, upd_same]
  · rw [k b c, upd_ne c]
/-! ### a list of pairs as data -/
def tupD (q : Int × Int) : PyData := .tuple [.int q.1, .int q.2]
theorem pairs_data : ∀ ps : List (Int × Int), PyData.canLayAll0 (ps.map tupD) = true ∧ PyData.depthAll (ps.map tupD) ≤ 1
  | [] => ⟨by simp [PyData.canLayAll0], by simp [PyData.depthAll]⟩
  | q :: ps => by
    obtain ⟨h1, h2⟩ := pairs_data ps
    refine ⟨?_, ?_⟩
    · rw [List.map_cons, PyData.canLayAll0, h1]
      simp [tupD, PyData.canLay0, PyData.canLayAll0]
    · rw [List.map_cons, PyData.depthAll]
      have e : (tupD q).depth = 1 := by simp [tupD, PyData.depth, PyData.depthAll]
      rw [e]
      omega
theorem pairs_shaped (ps : List (Int × Int)) : SeqAt.shaped (.list (ps.map tupD)) = true := by
  obtain ⟨h1, h2⟩ := pairs_data ps
  unfold SeqAt.shaped
  have e1 : PyData.canLay0 (.list (ps.map tupD)) = true := by rw [PyData.canLay0]; exact h1
  have e2 : PyData.depth (.list (ps.map tupD)) ≤ 64 := by
    rw [PyData.depth]
    omega
  rw [e1, Bool.true_and]
  exact decide_eq_true e2
theorem dpAll_pairs {K : PySem.W.Frag} {H : Hp} : ∀ {as : List Addr} {ps : List (Int × Int)}, as.length = ps.length → (∀ (k : Nat) (a : Addr), as[k]? = some a → ∃ q, ps[k]? = some q ∧ H a = some (.tup [.int q.1, .int q.2])) → DpAll K H (as.map V.ref) (ps.map tupD)
  | [], [], _, _ => .nil
  | [], _ :: _, e, _ => by cases e
  | _ :: _, [], e, _ => by cases e
  | a :: as, q :: ps, e, h => by
    obtain ⟨q', h1, h2⟩ := h 0 a rfl
    cases h1
    exact .cons (Dp.pair h2) (dpAll_pairs (Nat.succ.inj e) fun k b hb => h (k + 1) b hb)
theorem PairsAt.dp {K : PySem.W.Frag} {H : Hp} {D : Addr} {as : List Addr} {ps : List (Int × Int)} (h : PairsAt H D as ps) : Dp K H (.ref D) (.list (ps.map tupD)) := .lst (SqL.of h.lst) (dpAll_pairs h.len h.row)
theorem eqv_nil (ps : List (Int × Int)) : PyData.eqv (.list (ps.map tupD)) (.list []) = decide (ps = []) := by
  cases ps with
  | nil => simp [PyData.eqv, PyData.eqvAll]
  | cons q ps =>
    rw [decide_eq_false (by intro z; cases z)]
    simp [PyData.eqv, PyData.eqvAll]
theorem eqv_list2 (a b : Int) : PyData.eqv (.list [.int a, .int b]) (.list [.int a, .int b]) = true := by
  simp [PyData.eqv, PyData.eqvAll]
theorem Dp.list2 {K : PySem.W.Frag} {H : Hp} {p : Addr} {a b : Int} (h : H p = some (.lst [.int a, .int b])) : Dp K H (.ref p) (.list [.int a, .int b]) := .lst (SqL.of h) (.cons (.int a) (.cons (.int b) .nil))
/-! ### a list of ints as data -/
theorem ints_data : ∀ js : List Int, PyData.canLayAll0 (js.map PyData.int) = true ∧ PyData.depthAll (js.map PyData.int) = 0
  | [] => ⟨by simp [PyData.canLayAll0], by simp [PyData.depthAll]⟩
  | j :: js => by
    obtain ⟨h1, h2⟩ := ints_data js
    refine ⟨?_, ?_⟩
    · rw [List.map_cons, PyData.canLayAll0, h1]
      simp [PyData.canLay0]
    · rw [List.map_cons, PyData.depthAll, h2]
      simp [PyData.depth]
theorem ints_shaped (js : List Int) : SeqAt.shaped (.list (js.map PyData.int)) = true := by
  obtain ⟨h1, h2⟩ := ints_data js
  unfold SeqAt.shaped
  have e1 : PyData.canLay0 (.list (js.map PyData.int)) = true := by rw [PyData.canLay0]; exact h1
  have e2 : PyData.depth (.list (js.map PyData.int)) ≤ 64 := by
    rw [PyData.depth]
    omega
  rw [e1, Bool.true_and]
  exact decide_eq_true e2
theorem dpAll_ints {K : PySem.W.Frag} {H : Hp} : ∀ js : List Int, DpAll K H (js.map V.int) (js.map PyData.int)
  | [] => .nil
  | j :: js => .cons (.int j) (dpAll_ints js)
theorem Dp.ints {K : PySem.W.Frag} {H : Hp} {D : Addr} {js : List Int} (h : H D = some (.lst (js.map V.int))) : Dp K H (.ref D) (.list (js.map PyData.int)) := .lst (SqL.of h) (dpAll_ints js)
theorem eqv_ints_nil (js : List Int) : PyData.eqv (.list (js.map PyData.int)) (.list []) = decide (js = []) := by
  cases js with
  | nil => simp [PyData.eqv, PyData.eqvAll]
  | cons q ps =>
    rw [decide_eq_false (by intro z; cases z)]
    simp [PyData.eqv, PyData.eqvAll]
theorem eqvAll_ints : ∀ js : List Int, PyData.eqvAll (js.map PyData.int) (js.map PyData.int) = true
  | [] => by simp [PyData.eqvAll]
  | j :: js => by
    rw [List.map_cons, PyData.eqvAll, eqvAll_ints js]
    simp [PyData.eqv]
theorem eqv_ints (js : List Int) : PyData.eqv (.list (js.map PyData.int)) (.list (js.map PyData.int)) = true := by
  rw [PyData.eqv]
  exact eqvAll_ints js
theorem two_pos (n : Nat) : (0 : Int) < 2 ^ n := Int.pow_pos (by decide)
theorem two_succ (n : Nat) : (2 : Int) ^ (n + 1) = 2 ^ n + 2 ^ n := by
  rw [Int.pow_succ]; omega
theorem two_succ' (n : Nat) : (2 : Int) ^ (n + 1) = 2 ^ n * 2 := Int.pow_succ 2 n
theorem two_mono {a b : Nat} (h : a ≤ b) : (2 : Int) ^ a ≤ 2 ^ b := by
  obtain ⟨c, rfl⟩ := Nat.le.dest h
  induction c with
  | zero => exact Int.le_refl _
  | succ c ih =>
    have := ih (Nat.le_add_right _ _)
    have e : a + (c + 1) = (a + c) + 1 := rfl
    rw [e, two_succ]
    have := two_pos (a + c)
    omega
section
variable {P : Program} {w : World} {K : PySem.W.Frag} {mg : Str → Option Value} {base : Heap}
def sp_whole : Sp := fun vs H Q _ => ∃ i : Int, vs = [.int i] ∧ Q (.bl true) H
theorem ok_whole (T : Txt K mg) : FnOk P w K mg base CX0 1 T.a_l_whole T.d_l_whole ["_law_found"] sp_whole := by
  refine T.F_l_whole.ok sc_l_whole (fun vs H Q E h => ?_) (fun cdv A outer s H vs Q E hr h => ?_)
  · obtain ⟨i, rfl, _⟩ := h
    rfl
  · obtain ⟨i, rfl, k⟩ := h
    refine ⟨_, (pss_one (ps_ret (pe_and (pe_callB call_isi (by rfl) T.z_isinstance (by decide +kernel) (pa_cons (pv 0) (pa_cons (pe_bltn (v := .ty "int") (by rfl) T.z_int (by decide +kernel) rfl) pa_nil))) (pe_one (pe_not (pe_callB call_isi (by rfl) T.z_isinstance (by decide +kernel) (pa_cons (pv 0) (pa_cons (pe_bltn (v := .ty "bool") (by rfl) T.z_bool (by decide +kernel) rfl) pa_nil)))))))), ?_⟩
    refine ⟨_, rfl, _, _, _, _, _, rfl, .ty "int", .base (.int i), kit_ty (by decide +kernel), true, rfl, ?_⟩
    refine iteT ⟨_, rfl, _, _, _, _, _, rfl, .ty "bool", .base (.int i), kit_ty (by decide +kernel), false, rfl, ?_⟩
    exact k
theorem nil_or_snoc {α : Type} (l : List α) : l = [] ∨ ∃ us t, l = us ++ [t] := by
  rcases List.eq_nil_or_concat l with e | ⟨us, t, e⟩
  · exact .inl e
  · exact .inr ⟨us, t, by rw [e, List.concat_eq_append]⟩
/-- the number at the top -/
def topI : Tre → Int
  | .nil => 0
  | .nd n _ _ => n.i
/-- a part waits, if there is one -/
def app1 (us : List Tre) : Tre → List Tre
  | .nil => us
  | .nd n l r => us ++ [.nd n l r]
def flat (us : List Tre) : List (Nd × Tre × Tre) := us.reverse.flatMap subs
theorem flat_snoc (us : List Tre) (t : Tre) : flat (us ++ [t]) = subs t ++ flat us := by
  unfold flat
  rw [List.reverse_append]
  rfl
theorem flat_app1 (us : List Tre) (t : Tre) : flat (app1 us t) = subs t ++ flat us := by
  cases t with
  | nil => rfl
  | nd n l r => exact flat_snoc us _
theorem app1_ok {us : List Tre} (h : ∀ t ∈ us, t ≠ .nil) (t : Tre) : ∀ x ∈ app1 us t, x ≠ .nil := fun x hx => by
  cases t with
  | nil => exact h x hx
  | nd n l r =>
    rcases List.mem_append.mp hx with z | z
    · exact h x z
    · rw [List.mem_singleton.mp z]
      intro q
      cases q
theorem subs_len : ∀ vs : List Tre, (∀ t ∈ vs, t ≠ .nil) → vs.length ≤ (vs.flatMap subs).length
  | [], _ => Nat.zero_le _
  | t :: vs, h => by
    have := subs_len vs fun t ht => h t (List.mem_cons_of_mem _ ht)
    rw [List.flatMap_cons, List.length_append, List.length_cons]
    cases t with
    | nil => exact absurd rfl (h .nil List.mem_cons_self)
    | nd n l r =>
      have e : (subs (.nd n l r)).length = (subs l ++ subs r).length + 1 := rfl
      omega
theorem flat_len {us : List Tre} (h : ∀ t ∈ us, t ≠ .nil) : us.length ≤ (flat us).length := by
  have := subs_len us.reverse fun t ht => h t (List.mem_reverse.mp ht)
  rw [List.length_reverse] at this
  exact this
/-- the rows stand in the order of the tree -/
def sp_walked : Sp := fun vs H Q _ => ∃ (L : Addr) (as : List Addr) (s : Tre), vs = [.ref L] ∧ Told H L as s ∧ s.size ≤ 1000 ∧ ∀ H', Same H H' → Q (.bl true) H'
theorem ok_walked (T : Txt K mg) : FnOk P w K mg base CX0 1 T.a_l_walked T.d_l_walked ["_law_rows"] sp_walked := by
  refine T.F_l_walked.ok sc_l_walked (fun vs H Q E h => ?_) (fun cdv A outer s H vs Q E hr h => ?_)
  · obtain ⟨L, as, s, rfl, _⟩ := h
    rfl
  · obtain ⟨L, as, s, rfl, told, hsz, k⟩ := h
    refine ⟨_, (pss_cons (ps_set (i := 1) sc_l_walked.nd rfl (.inl rfl) (pe_lst pa_nil))
  (C8.pss_cut (ps_if (pt_cmpR op_gt (pe_callB call_len_seq (by rfl) T.z_len PySem.boot_len (pa_cons (pv 0) pa_nil)) pe_int (nomark _))
  (pss_one (ps_set (i := 1) sc_l_walked.nd rfl (.inl rfl) (pe_lst (pa_cons (pe_ix ix_tup (pe_ix ix_list (pv 0) pe_int (fun _ _ => rfl)) pe_int (fun _ _ => rfl)) pa_nil))))
  pss_nil)
  (pss_cons (ps_for PassesOwn.never rfl (pi_list (pv 0)) (pg_name (i := 2) sc_l_walked.nd rfl (.inl rfl))
  (pss_cons (ps_if (PW.pt (pw_or (pt_cmpR (op_eqD hr.units) (pv 1) (pe_lst pa_nil) (nomark _)) (pw_or1 (pt_cmpR op_ne (pe_bm0 PySem.F.plainAttrs_list PySem.F.slot_list_pop PySem.F.type_list_pop mt_pop (pv 1)) (pe_ix ix_tup (pv 2) pe_int (fun _ _ => rfl)) (nomark _)))))
  (pss_one (ps_ret pe_bl))
  pss_nil)
  (pss_one (ps_for PassesOwn.never rfl (pi_list (pe_lst (pa_cons (pe_ix ix_tup (pv 2) pe_int (fun _ _ => rfl)) (pa_cons (pe_ix ix_tup (pv 2) pe_int (fun _ _ => rfl)) pa_nil)))) (pg_name (i := 3) sc_l_walked.nd rfl (.inl rfl))
  (pss_one (ps_if (pt_cmpR op_notN (pv 3) pe_non (nomark _))
  (pss_one (ps_expr (pe_bm PySem.F.plainAttrs_list PySem.F.slot_list_append PySem.F.type_list_append mt_append (pv 1) (pa_cons (pv 3) pa_nil))))
  pss_nil))))))
  (pss_one (ps_ret (pe_cmpR (op_eqD hr.units) (pv 1) (pe_lst pa_nil) (nomark _))))))), ?_⟩
    have hlen : (as.map V.ref).length = s.size := by
      rw [List.length_map, told.len, ← List.length_map (·.1), subs_nodes, size_nodes]
    refine ⟨Nat.zero_le _, fun W0 hW0 => ?_⟩
    refine ⟨fun σ H' => ∃ (Wt : Addr) (stk : List Tre), σ = [some (.ref L), some (.ref Wt), none, none] ∧ Same H H' ∧ H Wt = none ∧ H' Wt = some (.lst ((stk.map topI).map V.int)) ∧ (∀ t ∈ stk, t ≠ .nil) ∧ subs s = flat stk, ?_, ?_⟩
    · have s0 : Same H (upd H W0 (.lst [])) := same_new hW0
      refine ⟨_, rfl, L, _, rfl, .inl (SqL.of (s0 _ _ told.lst)), _, _, rfl, rfl, _, rfl, ?_⟩
      cases s with
      | nil =>
        refine t_no (by rw [hlen]; show ¬ (0 < ((0 : Nat) : Int)); omega) ?_
        exact ⟨W0, [], rfl, s0, hW0, upd_same, (fun t h => by cases h), rfl⟩
      | nd n l r =>
        refine t_yes (by rw [hlen]; show 0 < ((l.size + r.size + 1 : Nat) : Int); omega) ?_
        obtain ⟨a0, as', ea⟩ : ∃ a0 as', as = a0 :: as' := by
          cases as with
          | nil => exact absurd told.len (by show ¬ 0 = _ + 1; omega)
          | cons a0 as' => exact ⟨a0, as', rfl⟩
        obtain ⟨x, hx1, hx2⟩ := told.row 0 a0 (by rw [ea]; rfl)
        cases hx1
        refine ⟨_, rfl, L, _, 0, .ref a0, rfl, rfl, SqL.of (s0 _ _ told.lst), atI_nat (j := 0) (by rw [ea]; rfl), a0, _, 0, _, rfl, rfl, SqT.of (s0 _ _ hx2), rfl, by show 1 ≤ sizeLine; decide, fun W1 hW1 => ?_⟩
        exact ⟨W1, [.nd n l r], rfl, fun b o e => same_new hW1 _ _ (s0 _ _ e), s0.free hW1, upd_same, (fun t h => by rw [List.mem_singleton.mp h]; intro z; cases z), (flat_snoc [] _).trans (List.append_nil _) |>.symm⟩
    rintro σ H1 ⟨Wt, stk, rfl, s1, hWt, eW, hne, hfl⟩
    have kL : ∀ {H' : Hp}, Same H H' → SqL K H' L (as.map V.ref) := fun s => SqL.of (s _ _ told.lst)
    refine ⟨_, rfl, L, rfl, ⟨_, kL s1⟩, for_list (K := K) (a := L) (xs := as.map V.ref) (fun i σ H' => ∃ (stk : List Tre) (v2 v3 : Option V), σ = [some (.ref L), some (.ref Wt), v2, v3] ∧ Same H H' ∧ H' Wt = some (.lst ((stk.map topI).map V.int)) ∧ (∀ t ∈ stk, t ≠ .nil) ∧ (subs s).drop i = flat stk) ⟨stk, none, none, rfl, s1, eW, hne, hfl⟩ (fun i σ H' _ ⟨_, _, _, _, s, _⟩ => kL s) ?_ ?_⟩
    · clear eW hne hfl s1
      rintro i x σ H' hx ⟨stk, v2, v3, rfl, s1, eW, hne, hfl⟩
      rw [List.getElem?_map] at hx
      obtain ⟨ak, hak, rfl⟩ := Option.map_eq_some_iff.mp hx
      obtain ⟨⟨n, l, r⟩, hrow, htup⟩ := told.row i ak hak
      have hdrop : (subs s).drop i = (n, l, r) :: (subs s).drop (i + 1) := by
        obtain ⟨hl, he⟩ := List.getElem?_eq_some_iff.mp hrow
        rw [List.drop_eq_getElem_cons hl, he]
      rcases nil_or_snoc stk with rfl | ⟨us, t, rfl⟩
      · rw [hdrop] at hfl
        cases hfl
      have ht : t ≠ .nil := hne t (List.mem_append_right _ (List.mem_singleton.mpr rfl))
      cases t with
      | nil => exact absurd rfl ht
      | nd n' l' r' =>
      rw [hdrop, flat_snoc] at hfl
      have h1 : (n, l, r) = (n', l', r') := (List.cons.inj hfl).1
      have h2 : (subs s).drop (i + 1) = (subs l' ++ subs r') ++ flat us := (List.cons.inj hfl).2
      cases h1
      have htup' := s1 _ _ htup
      -- waiting == []
      refine ⟨_, rfl, Nat.zero_le _, fun e0 he0 => ⟨_, _, Dp.ints (same_new he0 _ _ eW), Dp.none upd_same, ints_shaped _, rfl, ?_⟩⟩
      rw [eqv_ints_nil]
      refine ⟨_, rfl, t_no (by rw [List.map_append]; intro z; simp at z) ?_⟩
      have s2 : Same H (upd H' e0 (.lst [])) := fun b o e => same_new he0 _ _ (s1 _ _ e)
      have eW2 := same_new (o := .lst []) he0 _ _ eW
      generalize upd H' e0 (.lst []) = H2 at s2 eW2 ⊢
      -- waiting.pop()
      have elast : (((us ++ [Tre.nd n l r]).map topI).map V.int)[(((us ++ [Tre.nd n l r]).map topI).map V.int).length - 1]? = some (.int (n.i : Int)) := by
        rw [List.map_append, List.map_append, List.length_append]
        show _ = some (V.int (topI (.nd n l r)))
        rw [List.length_map, List.length_map, List.getElem?_append_right (by rw [List.length_map, List.length_map]; simp)]
        simp
      have edrop : (((us ++ [Tre.nd n l r]).map topI).map V.int).dropLast = (us.map topI).map V.int := by
        rw [List.map_append, List.map_append]
        exact List.dropLast_concat
      have nWt : ∀ b o, H b = some o → b ≠ Wt := fun b o e => ne_of_none e hWt
      refine ⟨_, rfl, .inl ⟨rfl, _, SqL.of eW2⟩, Wt, _, _, rfl, rfl, eW2, elast, ?_⟩
      rw [edrop]
      have s3 : Same H (upd H2 Wt (.lst ((us.map topI).map V.int))) := fun b o e => by
        rw [upd_ne (nWt b o e)]
        exact s2 _ _ e
      have t3 := s3 _ _ htup
      refine ⟨_, rfl, ak, _, 0, _, rfl, rfl, SqT.of t3, rfl, rfl, _, rfl, n_yes rfl ?_⟩
      -- the parts
      refine ⟨_, rfl, ak, _, 3, _, rfl, rfl, SqT.of t3, rfl, _, rfl, ak, _, 2, _, rfl, rfl, SqT.of t3, rfl, by show 2 ≤ sizeLine; decide, fun Q2 hQ2 => ?_⟩
      have nQ : Q2 ≠ Wt := fun z => by
        rw [z, upd_same] at hQ2
        cases hQ2
      have s4 : Same H (upd (upd H2 Wt (.lst ((us.map topI).map V.int))) Q2 (.lst [thV r, thV l])) := fun b o e => same_new hQ2 _ _ (s3 _ _ e)
      have eW4 : (upd (upd H2 Wt (.lst ((us.map topI).map V.int))) Q2 (.lst [thV r, thV l])) Wt = some (.lst ((us.map topI).map V.int)) := by rw [upd_ne nQ.symm, upd_same]
      have eQ4 : (upd (upd H2 Wt (.lst ((us.map topI).map V.int))) Q2 (.lst [thV r, thV l])) Q2 = some (.lst [thV r, thV l]) := upd_same
      have hus : ∀ t ∈ us, t ≠ .nil := fun t h => hne t (List.mem_append_left _ h)
      have lus : us.length ≤ 2000 := by
        have hh : (subs s).length = (as.map V.ref).length := by rw [List.length_map, told.len]
        have h3 := flat_len hus
        have h4 := congrArg List.length h2
        rw [List.length_append, List.length_drop] at h4
        omega
      refine ⟨Q2, rfl, ⟨_, SqL.of eQ4⟩, for_list (K := K) (a := Q2) (xs := [thV r, thV l]) (fun q σ H' => ∃ (ws : List Tre) (v3 : Option V), σ = [some (.ref L), some (.ref Wt), some (.ref ak), v3] ∧ Same H H' ∧ H' Q2 = some (.lst [thV r, thV l]) ∧ H' Wt = some (.lst ((ws.map topI).map V.int)) ∧ (∀ t ∈ ws, t ≠ .nil) ∧ ws.length ≤ us.length + q ∧ ws = if q = 0 then us else if q = 1 then app1 us r else app1 (app1 us r) l) ?_ ?_ ?_ ?_⟩
      · exact ⟨us, v3, rfl, s4, eQ4, eW4, hus, Nat.le_refl _, rfl⟩
      · rintro q σ H5 _ ⟨ws, v3, _, _, e, _⟩
        exact SqL.of e
      · rintro q x σ H5 hx ⟨ws, v3, rfl, s5, eQ5, eW5, hws, lws, ews⟩
        obtain ⟨t, rfl, hq2, hnext⟩ : ∃ t, x = thV t ∧ q < 2 ∧ app1 ws t = (if q + 1 = 0 then us else if q + 1 = 1 then app1 us r else app1 (app1 us r) l) := by
          match q, hx with
          | 0, hx => exact ⟨r, (Option.some.inj hx).symm, by decide, by rw [ews]; rfl⟩
          | 1, hx => exact ⟨l, (Option.some.inj hx).symm, by decide, by rw [ews]; rfl⟩
          | q + 2, hx => simp at hx
        have hok := app1_ok hws t
        cases t with
        | nil =>
          refine ⟨_, rfl, rfl, _, rfl, iteF ?_⟩
          exact ⟨ws, _, rfl, s5, eQ5, eW5, hws, by omega, hnext⟩
        | nd m p' q' =>
          refine ⟨_, rfl, rfl, _, rfl, iteT ?_⟩
          refine ⟨_, rfl, .inl ⟨rfl, _, SqL.of eW5⟩, _, rfl, Wt, _, _, rfl, rfl, eW5, Evl.sz_lt (by rw [List.length_map, List.length_map]; omega), ?_⟩
          refine ⟨ws ++ [.nd m p' q'], _, rfl, fun b o e => ?_, ?_, ?_, hok, by rw [List.length_append]; show ws.length + 1 ≤ _; omega, hnext⟩
          · rw [upd_ne (nWt b o e)]
            exact s5 _ _ e
          · rw [upd_ne nQ]
            exact eQ5
          · rw [upd_same, List.map_append, List.map_append]
            rfl
      · rintro σ H5 ⟨ws, v3, rfl, s5, eQ5, eW5, hws, lws, ews⟩
        refine ⟨ws, _, _, rfl, s5, eW5, hws, ?_⟩
        have e : ws = app1 (app1 us r) l := ews
        rw [h2, e, flat_app1, flat_app1, List.append_assoc]
    · rintro σ H' ⟨stk, v2, v3, rfl, s1, eW, hne, hfl⟩
      rw [List.drop_eq_nil_of_le (by rw [List.length_map, told.len]; exact Nat.le_refl _)] at hfl
      have estk : stk = [] := by
        rcases nil_or_snoc stk with e | ⟨us, t, e⟩
        · exact e
        · exfalso
          rw [e] at hfl hne
          rw [flat_snoc] at hfl
          cases t with
          | nil => exact hne .nil (List.mem_append_right _ (List.mem_singleton.mpr rfl)) rfl
          | nd n l r => cases hfl
      subst estk
      refine ⟨_, rfl, Nat.zero_le _, fun e0 he0 => ⟨_, _, Dp.none (same_new he0 _ _ eW), Dp.none upd_same, rfl, rfl, ?_⟩⟩
      have ee : PyData.eqv (.list []) (.list []) = true := by simp [PyData.eqv, PyData.eqvAll]
      rw [ee]
      exact k _ fun b o e => same_new he0 _ _ (s1 _ _ e)
theorem subs_after : ∀ (s : Tre) (m : Nat) (n : Nd) (l r : Tre), (subs s)[m]? = some (n, l, r) → ∀ x ∈ subs l ++ subs r, x ∈ (subs s).drop (m + 1)
  | .nil, m, n, l, r, h, _, _ => by cases h
  | .nd n0 l0 r0, 0, n, l, r, h, x, hx => by
    have e : (n0, l0, r0) = (n, l, r) := Option.some.inj h
    cases e
    exact hx
  | .nd n0 l0 r0, m + 1, n, l, r, h, x, hx => by
    have h2 : (subs l0 ++ subs r0)[m]? = some (n, l, r) := h
    show x ∈ (subs l0 ++ subs r0).drop (m + 1)
    by_cases c : m < (subs l0).length
    · rw [List.getElem?_append_left c] at h2
      have ih := subs_after l0 m n l r h2 x hx
      rw [List.drop_append_of_le_length (by omega)]
      exact List.mem_append_left _ ih
    · rw [List.getElem?_append_right (by omega)] at h2
      have ih := subs_after r0 (m - (subs l0).length) n l r h2 x hx
      have e : m + 1 = (subs l0).length + (m - (subs l0).length + 1) := by omega
      rw [e, List.drop_append]
      have e2 : (subs l0).length + (m - (subs l0).length + 1) - (subs l0).length = m - (subs l0).length + 1 := by omega
      rw [e2]
      exact List.mem_append_right _ ih
theorem LO_sub : ∀ {s : Tre}, LO s → ∀ x ∈ subs s, LO (.nd x.1 x.2.1 x.2.2)
  | .nil, _, x, h => by cases h
  | .nd n l r, g, x, h => by
    rcases List.mem_cons.mp h with z | z
    · rw [z]
      exact g
    · rcases List.mem_append.mp z with z | z
      · exact LO_sub g.2.2.1 x z
      · exact LO_sub g.2.2.2 x z
theorem subs_i (s : Tre) : (subs s).map (fun x => x.1.i) = (dats s).map Dat.i := by
  unfold dats
  rw [List.map_map, ← subs_nodes, List.map_map]
  rfl
theorem subs_dat {s : Tre} {x : Nd × Tre × Tre} (h : x ∈ subs s) : x.1.dat ∈ dats s := by
  unfold dats
  rw [← subs_nodes]
  exact List.mem_map_of_mem (List.mem_map_of_mem h)
/-- where the run of a part is told -/
def ixP (N : Nat) : Tre → Nat
  | .nil => N
  | .nd n _ _ => n.i
/-- the runs are those of the rows -/
def sp_runs : Sp := fun vs H Q _ => ∃ (L : Addr) (as : List Addr) (s : Tre) (N : Nat), vs = [.ref L, .int (N : Int)] ∧ Told H L as s ∧ LO s ∧ ((dats s).map Dat.i).Nodup ∧ (∀ d ∈ dats s, d.i < N) ∧ N ≤ 1000 ∧ ∀ H', Same H H' → Q (.bl true) H'
theorem ok_runs (T : Txt K mg) : FnOk P w K mg base CX0 1 T.a_l_runs T.d_l_runs ["_law_rows", "_law_size_here"] sp_runs := by
  refine T.F_l_runs.ok sc_l_runs (fun vs H Q E h => ?_) (fun cdv A outer s H vs Q E hr h => ?_)
  · obtain ⟨L, as, s, N, rfl, _⟩ := h
    rfl
  · obtain ⟨L, as, s, N, rfl, told, hlo, hnd, hlt, hN, k⟩ := h
    refine ⟨_, (pss_cons (ps_set (i := 2) sc_l_runs.nd rfl (.inl rfl) (pe_op op_rep (pe_lst (pa_cons pe_int pa_nil)) (pe_op op_add (pv 1) pe_int)))
  (pss_cons (ps_for PassesOwn.never rfl (pi_reversed (by rfl) T.z_reversed (pa_cons (pv 0) pa_nil)) (pg_name (i := 3) sc_l_runs.nd rfl (.inl rfl))
  (pss_cons (ps_set (i := 4) sc_l_runs.nd rfl (.inl rfl) (pv 1))
  (pss_cons (ps_set (i := 5) sc_l_runs.nd rfl (.inl rfl) (pv 1))
  (C8.pss_cut (ps_if (pt_cmpR op_notN (pe_ix ix_tup (pv 3) pe_int (fun _ _ => rfl)) pe_non (nomark _))
  (pss_one (ps_set (i := 4) sc_l_runs.nd rfl (.inl rfl) (pe_ix ix_tup (pv 3) pe_int (fun _ _ => rfl))))
  pss_nil)
  (C8.pss_cut (ps_if (pt_cmpR op_notN (pe_ix ix_tup (pv 3) pe_int (fun _ _ => rfl)) pe_non (nomark _))
  (pss_one (ps_set (i := 5) sc_l_runs.nd rfl (.inl rfl) (pe_ix ix_tup (pv 3) pe_int (fun _ _ => rfl))))
  pss_nil)
  (pss_cons (ps_if (PW.pt (pw_or (pt_cmpR op_gt (pe_ix ix_list (pv 2) (pv 5) (fun _ _ => rfl)) (pe_ix ix_list (pv 2) (pv 4) (fun _ _ => rfl)) (nomark _)) (pw_or1 (pt_cmpR op_ne (pe_ix ix_tup (pv 3) pe_int (fun _ _ => rfl)) (pe_op op_add pe_int (pe_ix ix_list (pv 2) (pv 5) (fun _ _ => rfl))) (nomark _)))))
  (pss_one (ps_ret pe_bl))
  pss_nil)
  (pss_one (ps_asg (pe_ix ix_tup (pv 3) pe_int (fun _ _ => rfl)) (pg_sub (pv 2) (pe_ix ix_tup (pv 3) pe_int (fun _ _ => rfl)) set_list)))))))))
  (pss_one (ps_ret pe_bl)))), ?_⟩
    refine ⟨by show 1 ≤ sizeLine; decide, fun Z hZ => ?_⟩
    refine ⟨_, rfl, _, _, rfl, rfl, Z, _, _, rfl, rfl, upd_same, by omega, by omega, ?_, fun R0 hR0 => ?_⟩
    · show 1 * ((N : Int) + 1).toNat ≤ sizeLine
      exact fits (by omega)
    have sR : Same H (upd (upd H Z (.lst [.int 0])) R0 (.lst (List.replicate ((N : Int) + 1).toNat [V.int 0]).flatten)) := fun b o e => same_new hR0 _ _ (same_new hZ _ _ e)
    have hR0H : H R0 = none := Same.free (same_new (o := .lst [.int 0]) hZ) hR0
    have eR : (upd (upd H Z (.lst [.int 0])) R0 (.lst (List.replicate ((N : Int) + 1).toNat [V.int 0]).flatten)) R0 = some (.lst ((List.replicate (N + 1) (0 : Int)).map V.int)) := by
      rw [upd_same]
      have e : ((N : Int) + 1).toNat = N + 1 := by omega
      have e2 : ∀ m : Nat, (List.replicate m [V.int 0]).flatten = (List.replicate m (0 : Int)).map V.int := fun m => by
        induction m with
        | zero => rfl
        | succ m ih =>
          rw [List.replicate_succ, List.replicate_succ, List.flatten_cons, ih]
          rfl
      rw [e, e2]
    generalize upd (upd H Z _) R0 _ = H1 at sR eR ⊢
    have kL : ∀ {H' : Hp}, Same H H' → SqL K H' L (as.map V.ref) := fun s => SqL.of (s _ _ told.lst)
    have la : (as.map V.ref).length = (subs s).length := by rw [List.length_map, told.len]
    refine ⟨_, rfl, L, as.map V.ref, rfl, kL sR, RT.for_Itv (K := K) (a := L) (xs := as.map V.ref) (fun i σ H' => ∃ (R : List Int) (v3 v4 v5 : Option V), σ = [some (.ref L), some (.int (N : Int)), some (.ref R0), v3, v4, v5] ∧ Same H H' ∧ H' R0 = some (.lst (R.map V.int)) ∧ R.length = N + 1 ∧ R[N]? = some 0 ∧ ∀ x ∈ (subs s).drop ((subs s).length - i), R[x.1.i]? = some (x.1.k : Int)) ?_ ?_ ?_ ?_⟩
    · refine ⟨List.replicate (N + 1) 0, none, none, none, rfl, sR, eR, List.length_replicate, ?_, fun x hx => ?_⟩
      · rw [List.getElem?_replicate, if_pos (Nat.lt_succ_self N)]
      · rw [Nat.sub_zero, List.drop_length] at hx
        cases hx
    · rintro i σ H' ⟨R, v3, v4, v5, _, s1, _⟩
      exact kL s1
    · rintro i x σ H' hi hx ⟨R, v3, v4, v5, rfl, s1, eR, lR, rN, hrun⟩
      rw [la] at hi hx
      rw [List.getElem?_map] at hx
      obtain ⟨ak, hak, rfl⟩ := Option.map_eq_some_iff.mp hx
      obtain ⟨⟨n, l, r⟩, hrow, htup⟩ := told.row _ ak hak
      have htup' := s1 _ _ htup
      have hmem := get_mem hrow
      have hlo1 : LO (.nd n l r) := LO_sub hlo _ hmem
      have hin : n.i < N := hlt _ (subs_dat hmem)
      have e1 : (subs s).length - 1 - i + 1 = (subs s).length - i := by omega
      -- the runs of the parts
      have part : ∀ t : Tre, (∀ x ∈ subs t, x ∈ subs l ++ subs r) → R[ixP N t]? = some (t.rk : Int) := fun t ht => by
        cases t with
        | nil => exact rN
        | nd m p q =>
          have hm : (m, p, q) ∈ (subs s).drop ((subs s).length - i) := by
            rw [← e1]
            exact subs_after s _ n l r hrow _ (ht _ List.mem_cons_self)
          exact hrun _ hm
      have pl := part l fun x h => List.mem_append_left _ h
      have pr := part r fun x h => List.mem_append_right _ h
      have sq := SqT.of (K := K) htup'
      refine ⟨_, rfl, _, rfl, ?_⟩
      refine ⟨fun σ H2 => σ = [some (.ref L), some (.int (N : Int)), some (.ref R0), some (.ref ak), some (.int (ixP N l : Int)), some (.int (N : Int))] ∧ H2 = H', ?_, ?_⟩
      · refine ⟨_, rfl, ak, _, 2, _, rfl, rfl, sq, rfl, rfl, _, rfl, ?_⟩
        cases l with
        | nil => exact iteF ⟨rfl, rfl⟩
        | nd m p q => exact iteT ⟨_, rfl, ak, _, 2, _, rfl, rfl, sq, rfl, rfl, rfl⟩
      rintro σ H2 ⟨rfl, rfl⟩
      refine ⟨fun σ H3 => σ = [some (.ref L), some (.int (N : Int)), some (.ref R0), some (.ref ak), some (.int (ixP N l : Int)), some (.int (ixP N r : Int))] ∧ H3 = H2, ?_, ?_⟩
      · refine ⟨_, rfl, ak, _, 3, _, rfl, rfl, sq, rfl, rfl, _, rfl, ?_⟩
        cases r with
        | nil => exact iteF ⟨rfl, rfl⟩
        | nd m p q => exact iteT ⟨_, rfl, ak, _, 3, _, rfl, rfl, sq, rfl, rfl, rfl⟩
      rintro σ H3 ⟨rfl, rfl⟩
      have hk : n.k = r.rk + 1 := hlo1.1
      have hle : r.rk ≤ l.rk := hlo1.2.1
      have sR3 := SqL.of (K := K) eR
      refine ⟨_, rfl, _, rfl, R0, _, _, _, rfl, rfl, sR3, at_of (j := ixP N r) rfl (int_at pr), _, rfl, _, rfl, R0, _, _, _, rfl, rfl, sR3, at_of (j := ixP N l) rfl (int_at pl), _, _, rfl, rfl, _, rfl, t_no (by omega) ?_⟩
      refine ⟨_, rfl, ak, _, 4, _, rfl, rfl, sq, rfl, _, rfl, _, rfl, R0, _, _, _, rfl, rfl, sR3, at_of (j := ixP N r) rfl (int_at pr), _, _, rfl, rfl, rfl, _, rfl, n_yes (congrArg V.int (by rw [hk]; omega)) ?_⟩
      refine ⟨_, rfl, ak, _, 4, _, rfl, rfl, sq, rfl, _, rfl, _, rfl, ak, _, 0, _, rfl, rfl, sq, rfl, R0, _, _, n.i, rfl, rfl, eR, Evl.ixN_nat (by rw [List.length_map]; show n.i < R.length; omega), ?_⟩
      refine ⟨R.set n.i (n.k : Int), _, _, _, rfl, fun b o e => ?_, ?_, by rw [List.length_set]; exact lR, ?_, fun x hx => ?_⟩
      · rw [upd_ne (ne_of_none e hR0H)]
        exact s1 _ _ e
      · rw [upd_same, List.map_set]
      · rw [List.getElem?_set_ne (by omega)]
        exact rN
      · have e2 : (subs s).length - (i + 1) = (subs s).length - 1 - i := by omega
        rw [e2] at hx
        have hdrop : (subs s).drop ((subs s).length - 1 - i) = (n, l, r) :: (subs s).drop ((subs s).length - i) := by
          obtain ⟨hl, he⟩ := List.getElem?_eq_some_iff.mp hrow
          rw [List.drop_eq_getElem_cons hl, he, e1]
        rw [hdrop] at hx
        have hnd2 : (((subs s).drop ((subs s).length - 1 - i)).map (fun x => x.1.i)).Nodup := by
          have h1 := hnd
          rw [← subs_i] at h1
          rw [List.map_drop]
          exact h1.sublist (List.drop_sublist _ _)
        rw [hdrop, List.map_cons, List.nodup_cons] at hnd2
        rcases List.mem_cons.mp hx with z | z
        · rw [z]
          show (R.set n.i (n.k : Int))[n.i]? = _
          rw [List.getElem?_set_self (by omega)]
        · have ne : n.i ≠ x.1.i := fun q => hnd2.1 (by rw [show (n, l, r).1.i = x.1.i from q]; exact List.mem_map_of_mem (f := fun x : Nd × Tre × Tre => x.1.i) z)
          rw [List.getElem?_set_ne ne]
          exact hrun x z
    · rintro σ H' ⟨R, v3, v4, v5, rfl, s1, _⟩
      exact k _ s1
/-- a part as a row must tell it -/
def PartOk (ws : List Int) (n : Nd) : Tre → Prop
  | .nil => True
  | .nd m _ _ => ws[m.i]? = some m.w ∧ dlt n.dat m.dat
theorem le_pair {a b c d : Int} (h : c < a ∨ (c = a ∧ d < b)) : Ob.lexAt (fun j => decide (([a, b] : List Int).getD j 0 = ([c, d] : List Int).getD j 0)) (fun j => decide (([a, b] : List Int).getD j 0 ≤ ([c, d] : List Int).getD j 0)) (decide (([a, b] : List Int).length ≤ ([c, d] : List Int).length)) 0 (min ([a, b] : List Int).length ([c, d] : List Int).length) = false := by
  have e : min ([a, b] : List Int).length ([c, d] : List Int).length = 2 := rfl
  rw [e, Ob.lexAt_succ, Ob.lexAt_succ, Ob.lexAt_zero]
  show (if decide (a = c) = true then (if decide (b = d) = true then _ else decide (b ≤ d)) else decide (a ≤ c)) = false
  by_cases h1 : a = c
  · rw [if_pos (decide_eq_true h1), if_neg (by rw [decide_eq_true_eq]; omega)]
    exact decide_eq_false (by omega)
  · rw [if_neg (by rw [decide_eq_true_eq]; exact h1)]
    exact decide_eq_false (by omega)
/-- one row -/
def sp_row : Sp := fun vs H Q _ => ∃ (a W : Addr) (ws : List Int) (n : Nd) (l r : Tre), vs = [.ref a, .ref W] ∧ H a = some (.tup (rowOf (n, l, r))) ∧ H W = some (.lst (ws.map V.int)) ∧ ws[n.i]? = some n.w ∧ PartOk ws n l ∧ PartOk ws n r ∧ ∀ H', Same H H' → Q (.bl true) H'
theorem ok_row (T : Txt K mg) : FnOk P w K mg base CX0 2 T.a_l_row T.d_l_row ["_law_row_here", "_law_weights"] sp_row := by
  have G_l_whole : FnOk P w K mg base CX0 1 _ _ _ _ := ok_whole T
  refine T.F_l_row.ok sc_l_row (fun vs H Q E h => ?_) (fun cdv A outer s H vs Q E hr h => ?_)
  · obtain ⟨a, W, ws, n, l, r, rfl, _⟩ := h
    rfl
  · obtain ⟨a, W, ws, n, l, r, rfl, ha, hW, hwn, hl, hr', k⟩ := h
    refine ⟨_, (pss_cons (ps_if (PW.pt (pw_or (pt_not (pt_val (pe_callB call_isi (by rfl) T.z_isinstance (by decide +kernel) (pa_cons (pv 0) (pa_cons (pe_bltn (v := .ty "tuple") (by rfl) T.z_tuple (by decide +kernel) rfl) pa_nil))))) (pw_or (pt_cmpR op_ne (pe_callB call_len_seq (by rfl) T.z_len PySem.boot_len (pa_cons (pv 0) pa_nil)) pe_int (nomark _)) (pw_or (pt_not (pt_val (pe_call G_l_whole hr rfl T.g_l_whole T.F_l_whole.kp T.b_l_whole .nil pass0 (pa_cons (pe_ix ix_tup (pv 0) pe_int (fun _ _ => rfl)) pa_nil)))) (pw_or1 (pt_not (pt_val (pe_call G_l_whole hr rfl T.g_l_whole T.F_l_whole.kp T.b_l_whole .nil pass0 (pa_cons (pe_ix ix_tup (pv 0) pe_int (fun _ _ => rfl)) pa_nil)))))))))
  (pss_one (ps_ret pe_bl))
  pss_nil)
  (pss_cons (ps_if (PW.pt (pw_or (pt_cmpR op_ne (pe_ix ix_tup (pv 0) pe_int (fun _ _ => rfl)) (pe_ix ix_list (pv 1) (pe_ix ix_tup (pv 0) pe_int (fun _ _ => rfl)) (fun _ _ => rfl)) (nomark _)) (pw_or1 (pt_not (pt_val (pe_call G_l_whole hr rfl T.g_l_whole T.F_l_whole.kp T.b_l_whole .nil pass0 (pa_cons (pe_ix ix_tup (pv 0) pe_int (fun _ _ => rfl)) pa_nil)))))))
  (pss_one (ps_ret pe_bl))
  pss_nil)
  (pss_cons (ps_for PassesOwn.never rfl (pi_list (pe_lst (pa_cons (pe_ix ix_tup (pv 0) pe_int (fun _ _ => rfl)) (pa_cons (pe_ix ix_tup (pv 0) pe_int (fun _ _ => rfl)) pa_nil)))) (pg_name (i := 2) sc_l_row.nd rfl (.inl rfl))
  (pss_cons (ps_if (PW.pt (pw_and (pt_cmpR op_notN (pv 2) pe_non (nomark _)) (pw_and1 (pt_not (pt_val (pe_call G_l_whole hr rfl T.g_l_whole T.F_l_whole.kp T.b_l_whole .nil pass0 (pa_cons (pv 2) pa_nil)))))))
  (pss_one (ps_ret pe_bl))
  pss_nil)
  (pss_one (ps_if (PW.pt (pw_and (pt_cmpR op_notN (pv 2) pe_non (nomark _)) (pw_and1 (pt_cmpR (op_leT hr.units0) (pe_tup (pa_cons (pe_ix ix_list (pv 1) (pv 2) (fun _ _ => rfl)) (pa_cons (pv 2) pa_nil))) (pe_tup (pa_cons (pe_ix ix_tup (pv 0) pe_int (fun _ _ => rfl)) (pa_cons (pe_ix ix_tup (pv 0) pe_int (fun _ _ => rfl)) pa_nil))) (nomark _)))))
  (pss_one (ps_ret pe_bl))
  pss_nil))))
  (pss_one (ps_ret pe_bl))))), ?_⟩
    have st := SqT.of (K := K) ha
    have sw := SqL.of (K := K) hW
    have hni := get_len hwn
    have lw : ((ws.map V.int).length : Int) = (ws.length : Int) := by rw [List.length_map]
    refine ⟨_, rfl, _, _, _, _, _, rfl, .ty "tuple", .base (.tup ha), kit_ty (by decide +kernel), true, rfl, iteF ?_⟩
    refine ⟨_, rfl, a, _, rfl, .inr st, rfl, _, rfl, n_yes rfl ?_⟩
    refine ⟨_, rfl, a, _, 0, _, rfl, rfl, st, rfl, _, rfl, true, rfl, iteF ?_⟩
    refine ⟨_, rfl, a, _, 4, _, rfl, rfl, st, rfl, _, rfl, true, rfl, iteF ?_⟩
    -- the run, the weight
    refine ⟨_, rfl, a, _, 1, _, rfl, rfl, st, rfl, _, rfl, _, rfl, a, _, 0, _, rfl, rfl, st, rfl, W, _, _, _, rfl, rfl, sw, at_of (j := n.i) rfl (int_at hwn), rfl, _, rfl, n_yes rfl ?_⟩
    refine ⟨_, rfl, a, _, 1, _, rfl, rfl, st, rfl, _, rfl, true, rfl, iteF ?_⟩
    -- the parts
    refine ⟨_, rfl, a, _, 2, _, rfl, rfl, st, rfl, _, rfl, a, _, 3, _, rfl, rfl, st, rfl, by show 2 ≤ sizeLine; decide, fun Q2 hQ2 => ?_⟩
    have s1 : Same H (upd H Q2 (.lst [thV l, thV r])) := same_new hQ2
    have eQ : (upd H Q2 (.lst [thV l, thV r])) Q2 = some (.lst [thV l, thV r]) := upd_same
    refine ⟨Q2, rfl, ⟨_, SqL.of eQ⟩, for_list (K := K) (a := Q2) (xs := [thV l, thV r]) (fun q σ H' => ∃ v2 : Option V, σ = [some (.ref a), some (.ref W), v2] ∧ Same H H' ∧ H' Q2 = some (.lst [thV l, thV r])) ?_ ?_ ?_ ?_⟩
    · exact ⟨none, rfl, s1, eQ⟩
    · rintro q σ H' _ ⟨v2, _, _, e⟩
      exact SqL.of e
    · rintro q x σ H' hx ⟨v2, rfl, s2, eQ2⟩
      obtain ⟨t, rfl, pt⟩ : ∃ t, x = thV t ∧ PartOk ws n t := by
        match q, hx with
        | 0, hx => exact ⟨l, (Option.some.inj hx).symm, hl⟩
        | 1, hx => exact ⟨r, (Option.some.inj hx).symm, hr'⟩
        | q + 2, hx => simp at hx
      have st2 := SqT.of (K := K) (s2 _ _ ha)
      have sw2 := SqL.of (K := K) (s2 _ _ hW)
      cases t with
      | nil => exact ⟨_, rfl, rfl, _, rfl, iteF (iteF ⟨_, rfl, rfl, _, rfl, iteF (iteF ⟨_, rfl, s2, eQ2⟩)⟩)⟩
      | nd m p q' =>
        obtain ⟨hm, hd⟩ := pt
        have hmi := get_len hm
        refine ⟨_, rfl, rfl, _, rfl, iteT ?_⟩
        refine ⟨_, rfl, _, rfl, true, rfl, iteF ?_⟩
        refine ⟨_, rfl, rfl, _, rfl, iteT ?_⟩
        refine ⟨_, rfl, _, rfl, W, _, _, _, rfl, rfl, sw2, at_of (j := m.i) rfl (int_at hm), _, rfl, by show 2 ≤ sizeLine; decide, fun u hu => ?_⟩
        have s3 := same_new (o := .tup [.int m.w, .int (m.i : Int)]) hu
        refine ⟨_, rfl, a, _, 1, _, rfl, rfl, SqT.of (s3 _ _ (s2 _ _ ha)), rfl, _, rfl, a, _, 0, _, rfl, rfl, SqT.of (s3 _ _ (s2 _ _ ha)), rfl, by show 2 ≤ sizeLine; decide, fun u2 hu2 => ?_⟩
        have s4 := same_new (o := .tup [.int n.w, .int (n.i : Int)]) hu2
        refine ⟨u, u2, [m.w, (m.i : Int)], [n.w, (n.i : Int)], rfl, rfl, SqT.of (s4 _ _ upd_same), SqT.of upd_same, ?_⟩
        have hd2 : n.w < m.w ∨ (n.w = m.w ∧ n.i < m.i) := hd
        rw [le_pair (by omega)]
        refine ⟨_, rfl, iteF ?_⟩
        exact ⟨_, rfl, fun b o e => s4 _ _ (s3 _ _ (s2 _ _ e)), s4 _ _ (s3 _ _ eQ2)⟩
    · rintro σ H' ⟨v2, rfl, s2, _⟩
      exact k _ s2
/-- how many lie in a heap -/
def cnt (hs : List (Option Nat)) (j : Nat) : Nat := ((List.range hs.length).filter fun k => decide (hs[k]? = some (some j))).length
theorem cnt_rows {ws : List Int} {hs : List (Option Nat)} (h : hs.length = ws.length) (j : Nat) : (rowsOf ws hs j).length = cnt hs j := by
  unfold rowsOf rowsTo cnt
  rw [List.length_map, h]
theorem fil_yes {hs : List (Option Nat)} {j m : Nat} (h : hs[m]? = some (some j)) : (List.range (m + 1)).filter (fun k => decide (hs[k]? = some (some j))) = (List.range m).filter (fun k => decide (hs[k]? = some (some j))) ++ [m] := by
  rw [List.range_succ, List.filter_append, List.filter_cons_of_pos (by rw [decide_eq_true_eq]; exact h), List.filter_nil]
theorem fil_no {hs : List (Option Nat)} {j m : Nat} (h : hs[m]? ≠ some (some j)) : (List.range (m + 1)).filter (fun k => decide (hs[k]? = some (some j))) = (List.range m).filter (fun k => decide (hs[k]? = some (some j))) := by
  rw [List.range_succ, List.filter_append, List.filter_cons_of_neg (by rw [decide_eq_true_eq]; exact h), List.filter_nil, List.append_nil]
def sp_size : Sp := fun vs H Q _ => ∃ (X : Addr) (hs : List (Option Nat)) (j : Nat), vs = [.ref X, .int (j : Int)] ∧ H X = some (.lst (hs.map hV)) ∧ hs.length ≤ 1000 ∧ ∀ H', Same H H' → Q (.int (cnt hs j : Int)) H'
theorem ok_size (T : Txt K mg) : FnOk P w K mg base CX0 1 T.a_l_size T.d_l_size ["_law_homes", "_law_heap"] sp_size := by
  refine T.F_l_size.ok sc_l_size (fun vs H Q E h => ?_) (fun cdv A outer s H vs Q E hr h => ?_)
  · obtain ⟨X, hs, j, rfl, _⟩ := h
    rfl
  · obtain ⟨X, hs, j, rfl, hX, hl, k⟩ := h
    refine ⟨_, (pss_one (ps_ret (pe_callB call_len_seq (by rfl) T.z_len PySem.boot_len (pa_cons (pe_lc (own := [("_law_k", 2)]) (by rfl) sc_l_size.nd (pi_range1 (by rfl) T.z_range (pa_cons (pe_callB call_len_seq (by rfl) T.z_len PySem.boot_len (pa_cons (pv 0) pa_nil)) pa_nil)) (blkOk_by (N := N_l_size) (sc := defScope s_l_size) (by decide +kernel)) (fun _ _ _ _ _ => (pg_name (i := 2) sc_l_size.nd rfl (.inl rfl))) (fun _ _ _ _ _ => (pts_one (pt_cmpR (op_eqDK (K := K) rfl hr.units) (pe_ix (ix_listK (K := K) rfl) (pv 0) (pv 2) (fun _ _ => rfl)) (pv 1) (nomark _)))) (fun _ _ _ _ _ => (pv 2))) pa_nil)))), ?_⟩
    have ex : (hs.map hV).length = hs.length := List.length_map _
    refine ⟨_, rfl, X, _, rfl, .inl (SqL.of hX), _, rfl, by omega, by rw [ex]; omega, fun D hD => lc_range (lo := 0) (n := _) (fun m H' => Same H H' ∧ ∃ ys, H' D = some (.lst ys) ∧ ys.length = ((List.range m).filter fun k => decide (hs[k]? = some (some j))).length ∧ ys.length ≤ m) ⟨same_new hD, [], upd_same, rfl, Nat.le_refl _⟩ ?_ ?_⟩
    · rintro m H1 hm ⟨s1, ys, eD, ly, lm⟩
      rw [Int.zero_add]
      rw [Int.toNat_natCast, ex] at hm
      obtain ⟨xm, hxm⟩ : ∃ xm, hs[m]? = some xm := ⟨hs[m], List.getElem?_eq_getElem hm⟩
      refine ⟨rfl, ?_⟩
      refine ⟨_, rfl, _, rfl, X, _, _, _, rfl, rfl, SqL.of (s1 _ _ hX), at_of (j := m) rfl (hV_at hxm), _, rfl, _, _, Dp.home xm, .int (j : Int), shaped_home xm, rfl, ?_⟩
      rw [eqv_home]
      refine ⟨_, rfl, t_2 (fun c => ?_) (fun c => ?_)⟩
      · subst c
        refine ⟨_, rfl, ys, eD, Evl.sz_lt (by omega), fun b o e => ?_, ys ++ [_], upd_same, ?_, ?_⟩
        · rw [upd_ne (ne_of_none e hD)]
          exact s1 _ _ e
        · rw [fil_yes hxm, List.length_append, List.length_append, ly]
          rfl
        · rw [List.length_append]
          exact Nat.succ_le_succ lm
      · refine ⟨s1, ys, eD, ?_, Nat.le_succ_of_le lm⟩
        rw [fil_no fun z => c ?_]
        · exact ly
        · rw [hxm] at z
          exact Option.some.inj z
    · rintro H1 ⟨s1, ys, eD, ly, lm⟩
      rw [Int.toNat_natCast, ex] at ly
      refine ⟨D, ys, rfl, .inl (SqL.of eD), ?_⟩
      rw [ly]
      exact k H1 s1
/-- the work is a whole number, and no more than that -/
def sp_within (C D : Addr) : Sp := fun vs H Q _ => ∃ (H0 : Hp) (p : Addr) (S : Fs) (m : Nat), vs = [.ref p, .int (m : Int)] ∧ Fd C D H0 H p S ∧ 0 ≤ S.wk ∧ S.wk ≤ m ∧ Q (.bl true) H
theorem ok_within (T : Txt K mg) : FnOk P w K mg base CX0 2 T.a_l_within T.d_l_within ["_law_field", "_law_most"] (sp_within T.c_Node T.c_Field) := by
  have G_l_whole : FnOk P w K mg base CX0 1 _ _ _ _ := ok_whole T
  have G_Field_work : FnOk P w K mg base CX0 1 _ _ _ _ := ok_work T
  refine T.F_l_within.ok sc_l_within (fun vs H Q E h => ?_) (fun cdv A outer s H vs Q E hr h => ?_)
  · obtain ⟨H0, p, S, m, rfl, _⟩ := h
    rfl
  · obtain ⟨H0, p, S, m, rfl, F, h0, hm, k⟩ := h
    refine ⟨_, (pss_cons (ps_set (i := 2) sc_l_within.nd rfl (.inl rfl) (pe_meth0 (pv 0) T.cl_Field T.m_Field_work G_Field_work hr T.b_Field_work .nil pass0))
  (pss_one (ps_ret (pe_and (pe_call G_l_whole hr rfl T.g_l_whole T.F_l_whole.kp T.b_l_whole .nil pass0 (pa_cons (pv 2) pa_nil)) (pe_one (pe_chain op_le op_le pe_int (pv 2) (pv 1))))))), ?_⟩
    obtain ⟨dx, lt, ln, ob, no⟩ := F.obj
    refine ⟨_, rfl, p, dx, _, rfl, ob, no _ (by decide +kernel) (by decide +kernel) (by decide +kernel), H0, p, S, rfl, F, ?_⟩
    refine ⟨_, rfl, _, rfl, true, rfl, iteT ?_⟩
    refine ⟨_, rfl, _, _, rfl, rfl, _, rfl, ?_⟩
    exact t_yes h0 ⟨_, rfl, _, _, rfl, rfl, q_yes hm k⟩
/-! ### a told tree as data -/
theorem Told.same {H H' : Hp} {L : Addr} {as : List Addr} {s : Tre} (h : Told H L as s) (m : Same H H') : Told H' L as s :=
  ⟨m _ _ h.lst, h.len, fun k a e => let ⟨x, h1, h2⟩ := h.row k a e; ⟨x, h1, m _ _ h2⟩⟩
def thD : Tre → PyData
  | .nil => .none
  | .nd n _ _ => .int (n.i : Int)
def rowD (x : Nd × Tre × Tre) : PyData := .tuple [.int x.1.i, .int x.1.w, thD x.2.1, thD x.2.2, .int x.1.k]
theorem thD_eqv (t : Tre) : PyData.eqv (thD t) (thD t) = true := by
  cases t <;> simp [thD, PyData.eqv]
theorem thD_lay (t : Tre) : PyData.canLay0 (thD t) = true ∧ PyData.depth (thD t) = 0 := by
  cases t <;> simp [thD, PyData.canLay0, PyData.depth]
theorem thD_dp {K : PySem.W.Frag} {H : Hp} (t : Tre) : Dp K H (thV t) (thD t) := by
  cases t with
  | nil => exact .non
  | nd n l r => exact .int _
theorem rows_data : ∀ l : List (Nd × Tre × Tre), PyData.canLayAll0 (l.map rowD) = true ∧ PyData.depthAll (l.map rowD) ≤ 1 ∧ PyData.eqvAll (l.map rowD) (l.map rowD) = true
  | [] => ⟨by simp [PyData.canLayAll0], by simp [PyData.depthAll], by simp [PyData.eqvAll]⟩
  | x :: l => by
    obtain ⟨h1, h2, h3⟩ := rows_data l
    obtain ⟨n, p, q⟩ := x
    refine ⟨?_, ?_, ?_⟩
    · rw [List.map_cons, PyData.canLayAll0, h1]
      simp [rowD, PyData.canLay0, PyData.canLayAll0, (thD_lay p).1, (thD_lay q).1]
    · rw [List.map_cons, PyData.depthAll]
      have e : (rowD (n, p, q)).depth = 1 := by simp [rowD, PyData.depth, PyData.depthAll, (thD_lay p).2, (thD_lay q).2]
      rw [e]
      omega
    · rw [List.map_cons, PyData.eqvAll, h3]
      simp [rowD, PyData.eqv, PyData.eqvAll, thD_eqv]
theorem rows_shaped (l : List (Nd × Tre × Tre)) : SeqAt.shaped (.list (l.map rowD)) = true := by
  obtain ⟨h1, h2, _⟩ := rows_data l
  unfold SeqAt.shaped
  have e1 : PyData.canLay0 (.list (l.map rowD)) = true := by rw [PyData.canLay0]; exact h1
  have e2 : PyData.depth (.list (l.map rowD)) ≤ 64 := by
    rw [PyData.depth]
    omega
  rw [e1, Bool.true_and]
  exact decide_eq_true e2
theorem rows_eqv (l : List (Nd × Tre × Tre)) : PyData.eqv (.list (l.map rowD)) (.list (l.map rowD)) = true := by
  rw [PyData.eqv]
  exact (rows_data l).2.2
theorem dpAll_rows {K : PySem.W.Frag} {H : Hp} : ∀ {as : List Addr} {l : List (Nd × Tre × Tre)}, as.length = l.length → (∀ (k : Nat) (a : Addr), as[k]? = some a → ∃ x, l[k]? = some x ∧ H a = some (.tup (rowOf x))) → DpAll K H (as.map V.ref) (l.map rowD)
  | [], [], _, _ => .nil
  | [], _ :: _, e, _ => by cases e
  | _ :: _, [], e, _ => by cases e
  | a :: as, q :: l, e, h => by
    obtain ⟨x, h1, h2⟩ := h 0 a rfl
    cases h1
    exact .cons (.tup (SqT.of h2) (.cons (.int _) (.cons (.int _) (.cons (thD_dp _) (.cons (thD_dp _) (.cons (.int _) .nil)))))) (dpAll_rows (Nat.succ.inj e) fun k b hb => h (k + 1) b hb)
theorem HO_sub : ∀ {s : Tre}, HO s → ∀ x ∈ subs s, HO (.nd x.1 x.2.1 x.2.2)
  | .nil, _, x, h => by cases h
  | .nd n l r, g, x, h => by
    rcases List.mem_cons.mp h with z | z
    · rw [z]
      exact g
    · rcases List.mem_append.mp z with z | z
      · exact HO_sub g.2.2.1 x z
      · exact HO_sub g.2.2.2 x z
theorem sub_dats : ∀ {s : Tre}, ∀ x ∈ subs s, (∀ d ∈ dats x.2.1, d ∈ dats s) ∧ ∀ d ∈ dats x.2.2, d ∈ dats s
  | .nil, x, h => by cases h
  | .nd n l r, x, h => by
    rw [dats_nd]
    rcases List.mem_cons.mp h with z | z
    · rw [z]
      exact ⟨fun d hd => List.mem_cons_of_mem _ (List.mem_append_left _ hd), fun d hd => List.mem_cons_of_mem _ (List.mem_append_right _ hd)⟩
    · rcases List.mem_append.mp z with z | z
      · obtain ⟨h1, h2⟩ := sub_dats x z
        exact ⟨fun d hd => List.mem_cons_of_mem _ (List.mem_append_left _ (h1 d hd)), fun d hd => List.mem_cons_of_mem _ (List.mem_append_left _ (h2 d hd))⟩
      · obtain ⟨h1, h2⟩ := sub_dats x z
        exact ⟨fun d hd => List.mem_cons_of_mem _ (List.mem_append_right _ (h1 d hd)), fun d hd => List.mem_cons_of_mem _ (List.mem_append_right _ (h2 d hd))⟩
/-- the parts of a row are as the row must tell them -/
theorem part_ok {s : Tre} {ws : List Int} (hw : ∀ d ∈ dats s, ws[d.i]? = some d.w) (ho : HO s) {x : Nd × Tre × Tre} (hx : x ∈ subs s) : ws[x.1.i]? = some x.1.w ∧ PartOk ws x.1 x.2.1 ∧ PartOk ws x.1 x.2.2 := by
  obtain ⟨n, l, r⟩ := x
  have g := HO_sub ho _ hx
  obtain ⟨h1, h2⟩ := sub_dats _ hx
  refine ⟨hw n.dat (subs_dat hx), ?_, ?_⟩
  · cases l with
    | nil => trivial
    | nd m p q =>
      have hm : m.dat ∈ dats (.nd m p q) := by rw [dats_nd]; exact List.mem_cons_self
      exact ⟨hw m.dat (h1 _ hm), g.1 _ hm⟩
  · cases r with
    | nil => trivial
    | nd m p q =>
      have hm : m.dat ∈ dats (.nd m p q) := by rw [dats_nd]; exact List.mem_cons_self
      exact ⟨hw m.dat (h2 _ hm), g.2.1 _ hm⟩
theorem sorted_uniq : ∀ (l m : List Int), l.Perm m → l.Pairwise (· ≤ ·) → m.Pairwise (· ≤ ·) → l = m
  | [], m, p, _, _ => p.nil_eq
  | x :: l, [], p, _, _ => absurd p.length_eq (by simp)
  | x :: l, y :: m, p, h1, h2 => by
    rw [List.pairwise_cons] at h1 h2
    have e : x = y := by
      rcases List.mem_cons.mp (p.mem_iff.mp (List.mem_cons_self (a := x) (l := l))) with z | z
      · exact z
      · rcases List.mem_cons.mp (p.mem_iff.mpr (List.mem_cons_self (a := y) (l := m))) with q | q
        · exact q.symm
        · have a := h2.1 x z
          have b := h1.1 y q
          omega
    subst e
    rw [sorted_uniq l m p.cons_inv h1.2 h2.2]
def rgI (n : Nat) : List Int := (List.range n).map fun i : Nat => (i : Int)
theorem rgI_sorted (n : Nat) : (rgI n).Pairwise (· ≤ ·) := by
  unfold rgI
  rw [List.pairwise_map]
  exact List.pairwise_lt_range.imp fun h => by omega
theorem rgV_rgI (n : Nat) : rgV 0 (n : Int) = (rgI n).map V.int := by
  unfold rgV rgI
  rw [List.map_map]
  have e : ((n : Int) - 0).toNat = n := by omega
  rw [e]
  refine List.map_congr_left fun i _ => ?_
  show V.int (0 + (i : Int)) = V.int (i : Int)
  rw [Int.zero_add]
/-- the numbers in heap j, in their order -/
def hereI (hs : List (Option Nat)) (j m : Nat) : List Int := ((List.range m).filter fun k => decide (hs[k]? = some (some j))).map fun k : Nat => (k : Int)
theorem hereI_sorted (hs : List (Option Nat)) (j m : Nat) : (hereI hs j m).Pairwise (· ≤ ·) := by
  unfold hereI
  rw [List.pairwise_map]
  exact (List.pairwise_lt_range.filter _).imp fun h => by omega
theorem here_perm {S : Fs} {ws : List Int} {hs : List (Option Nat)} {s : Tre} {j : Nat} (R : Rows S ws hs) (G : Good S) (h : S.ts[j]? = some s) : ((subs s).map fun x => (x.1.i : Int)).Perm (hereI hs j ws.length) := by
  have p := (R.perm G h).map fun q : Int × Int => q.2
  have e1 : ((dats s).map datP).map (fun q : Int × Int => q.2) = (subs s).map fun x => (x.1.i : Int) := by
    rw [List.map_map]
    have : ((subs s).map fun x => (x.1.i : Int)) = ((subs s).map fun x => x.1.i).map fun i : Nat => (i : Int) := by
      rw [List.map_map]
      rfl
    rw [this, subs_i, List.map_map]
    rfl
  have e2 : (rowsOf ws hs j).map (fun q : Int × Int => q.2) = hereI hs j ws.length := by
    unfold rowsOf rowsTo hereI
    rw [List.map_map]
    rfl
  rw [e1, e2] at p
  exact p
/-- the field, and the law's two lists -/
structure K10 (C D : Addr) (H0 H : Hp) (p W X : Addr) (S : Fs) (ws : List Int) (hs : List (Option Nat)) : Prop where
  F : Fd C D H0 H p S
  R : Rows S ws hs
  w : H0 W = some (.lst (ws.map V.int))
  x : H0 X = some (.lst (hs.map hV))
  ne : W ≠ X
/-- a heap's tree told is good -/
def sp_good (C D : Addr) : Sp := fun vs H Q _ => ∃ (H0 : Hp) (p W X : Addr) (S : Fs) (ws : List Int) (hs : List (Option Nat)) (j : Nat), vs = [.ref p, .ref W, .ref X, .int (j : Int)] ∧ K10 C D H0 H p W X S ws hs ∧ j < S.ts.length ∧ j < 90000 ∧
  ∀ H', Fd C D H0 H' p S → Q (.bl true) H'
theorem ok_good (T : Txt K mg) : FnOk P w K mg base CX0 4 T.a_l_good T.d_l_good ["_law_field", "_law_weights", "_law_homes", "_law_heap"] (sp_good T.c_Node T.c_Field) := by
  have G_l_row : FnOk P w K mg base CX0 3 _ _ _ _ := (ok_row T).mono (by decide)
  have G_l_walked : FnOk P w K mg base CX0 3 _ _ _ _ := (ok_walked T).mono (by decide)
  have G_l_runs : FnOk P w K mg base CX0 3 _ _ _ _ := (ok_runs T).mono (by decide)
  have G_Field_tree : FnOk P w K mg base (L2.CX P w) 3 _ _ _ _ := (ok_tree T).mono (by decide)
  refine T.F_l_good.ok sc_l_good (fun vs H Q E h => ?_) (fun cdv A outer s H vs Q E hr h => ?_)
  · obtain ⟨H0, p, W, X, S, ws, hs, j, rfl, _⟩ := h
    rfl
  · obtain ⟨H0, p, W, X, S, ws, hs, j, rfl, k8, hj, hj9, k⟩ := h
    refine ⟨_, (pss_cons (ps_set (i := 4) sc_l_good.nd rfl (.inl rfl) (pe_meth (pv 0) T.cl_Field T.m_Field_tree G_Field_tree hr T.b_Field_tree .nil passL (pa_cons (pv 3) pa_nil)))
  (pss_cons (ps_setLc (i := 5) (own := [("_law_k", 6)]) (by rfl) sc_l_good.nd rfl rfl (sw_true rfl rfl rfl (by decide +kernel)) (pi_range1 (by rfl) T.z_range (pa_cons (pe_callB call_len_seq (by rfl) T.z_len PySem.boot_len (pa_cons (pv 1) pa_nil)) pa_nil)) (blkOk_by (N := N_l_good) (sc := defScope s_l_good) (by decide +kernel)) (fun _ _ _ _ _ => (pg_name (i := 6) sc_l_good.nd rfl (.inl rfl))) (fun _ _ _ _ _ => (pts_one (pt_cmpR (op_eqDK (K := K) rfl hr.units) (pe_ix (ix_listK (K := K) rfl) (pv 2) (pv 6) (fun _ _ => rfl)) (pv 3) (nomark _)))) (fun _ _ _ _ _ => (pv 6)))
  (pss_cons (ps_if (PW.pt (pw_or (pt_not (pt_val (pe_callB call_isi (by rfl) T.z_isinstance (by decide +kernel) (pa_cons (pv 4) (pa_cons (pe_bltn (v := .ty "list") (by rfl) T.z_list (by decide +kernel) rfl) pa_nil))))) (pw_or1 (pt_cmpR (op_neD hr.units) (pe_callB cr_sortedI (by rfl) T.z_sorted (by decide +kernel) (pa_cons (pe_lc (own := [("_law_row_here", 7)]) (by rfl) sc_l_good.nd (pi_list (pv 4)) (blkOk_by (N := N_l_good) (sc := defScope s_l_good) (by decide +kernel)) (fun _ _ _ _ _ => (pg_name (i := 7) sc_l_good.nd rfl (.inl rfl))) (fun _ _ _ _ _ => pts_nil) (fun _ _ _ _ _ => (pe_ix (ix_tupK (K := K) rfl) (pv 7) pe_int (fun _ _ => rfl)))) pa_nil)) (pv 5) (nomark _)))))
  (pss_one (ps_ret pe_bl))
  pss_nil)
  (pss_cons (ps_for PassesOwn.never rfl (pi_list (pv 4)) (pg_name (i := 7) sc_l_good.nd rfl (.inl rfl))
  (pss_one (ps_if (pt_not (pt_val (pe_call G_l_row hr rfl T.g_l_row T.F_l_row.kp T.b_l_row .nil pass0 (pa_cons (pv 7) (pa_cons (pv 1) pa_nil)))))
  (pss_one (ps_ret pe_bl))
  pss_nil)))
  (pss_one (ps_ret (pe_and (pe_call G_l_walked hr rfl T.g_l_walked T.F_l_walked.kp T.b_l_walked .nil pass0 (pa_cons (pv 4) pa_nil)) (pe_one (pe_call G_l_runs hr rfl T.g_l_runs T.F_l_runs.kp T.b_l_runs .nil pass0 (pa_cons (pv 4) (pa_cons (pe_callB call_len_seq (by rfl) T.z_len PySem.boot_len (pa_cons (pv 1) pa_nil)) pa_nil))))))))))), ?_⟩
    obtain ⟨F, R, eW, eX, ne⟩ := k8
    have G := F.1
    have hn1 := R.n1
    have hn2 := R.n2
    have hlen := G.len
    obtain ⟨s, hs'⟩ : ∃ s, S.ts[j]? = some s := ⟨S.ts[j], List.getElem?_eq_getElem hj⟩
    have hin : InH S (j : Int) := ⟨by omega, by omega⟩
    obtain ⟨dx, lt, ln, ob, no⟩ := F.obj
    refine ⟨_, rfl, p, dx, _, rfl, ob, no _ (by decide +kernel) (by decide +kernel) (by decide +kernel), _, rfl, H0, p, S, (j : Int), rfl, F, nat_log (by omega), fun j2 s2 ej h2 H2 H3 L as s02 hL told F3 => ?_, fun z => z hin⟩
    have ej2 : j2 = j := by omega
    subst ej2
    rw [hs'] at h2
    cases h2
    have told3 := told.same F3.same
    have W3 := F3.same _ _ (s02 _ _ eW)
    have X3 := F3.same _ _ (s02 _ _ eX)
    have sl : (subs s).length ≤ 1000 := by
      rw [← List.length_map (·.1), subs_nodes, size_nodes]
      have := G.size hs'
      omega
    have las : (as.map V.ref).length = (subs s).length := by rw [List.length_map, told.len]
    have hds : ∀ d ∈ dats s, ws[d.i]? = some d.w := fun d hd => (R.to j2 s hs' d hd).1
    have ew : (ws.map V.int).length = ws.length := List.length_map _
    -- the numbers due
    refine ⟨_, rfl, W, _, rfl, .inl (SqL.of W3), _, rfl, by omega, by rw [ew]; omega, fun D hD => lc_range (lo := 0) (n := _) (fun m H' => Same H3 H' ∧ H' D = some (.lst ((hereI hs j2 m).map V.int)) ∧ (hereI hs j2 m).length ≤ m) ⟨same_new hD, upd_same, Nat.le_refl _⟩ ?_ ?_⟩
    · rintro m H4 hm ⟨s4, eD, lm⟩
      rw [Int.zero_add]
      rw [Int.toNat_natCast, ew] at hm
      obtain ⟨xm, hxm⟩ : ∃ xm, hs[m]? = some xm := ⟨hs[m]'(by omega), List.getElem?_eq_getElem (by omega)⟩
      refine ⟨rfl, ?_⟩
      refine ⟨_, rfl, _, rfl, X, _, _, _, rfl, rfl, SqL.of (s4 _ _ X3), at_of (j := m) rfl (hV_at hxm), _, rfl, _, _, Dp.home xm, .int (j2 : Int), shaped_home xm, rfl, ?_⟩
      rw [eqv_home]
      refine ⟨_, rfl, t_2 (fun c => ?_) (fun c => ?_)⟩
      · subst c
        have e : hereI hs j2 (m + 1) = hereI hs j2 m ++ [(m : Int)] := by
          unfold hereI
          rw [fil_yes hxm, List.map_append]
          rfl
        refine ⟨_, rfl, _, eD, Evl.sz_lt (by rw [List.length_map]; omega), fun b o e => ?_, ?_, ?_⟩
        · rw [upd_ne (ne_of_none e hD)]
          exact s4 _ _ e
        · rw [upd_same, e, List.map_append]
          rfl
        · rw [e, List.length_append]
          exact Nat.succ_le_succ lm
      · have e : hereI hs j2 (m + 1) = hereI hs j2 m := by
          unfold hereI
          rw [fil_no fun z => c (by rw [hxm] at z; exact Option.some.inj z)]
        exact ⟨s4, by rw [e]; exact eD, by rw [e]; omega⟩
    rintro H4 ⟨s4, eD, _⟩
    rw [Int.toNat_natCast, ew] at eD
    have told4 := told3.same s4
    refine ⟨_, rfl, _, _, _, _, _, rfl, .ty "list", .base (.lst told4.lst), kit_ty (by decide +kernel), true, rfl, iteF ?_⟩
    -- the numbers told, sorted
    refine ⟨_, rfl, L, rfl, ⟨_, SqL.of told4.lst⟩, fun D1 hD1 => lc_list (K := K) (a := L) (xs := as.map V.ref) (fun k H' => Same H4 H' ∧ H' D1 = some (.lst ((((subs s).take k).map fun x => (x.1.i : Int)).map V.int))) ⟨same_new hD1, upd_same⟩ (fun k H' _ ⟨s1, _⟩ => SqL.of (s1 _ _ told4.lst)) ?_ ?_⟩
    · rintro i x H5 hx ⟨s5, eD1⟩
      rw [List.getElem?_map] at hx
      obtain ⟨ak, hak, rfl⟩ := Option.map_eq_some_iff.mp hx
      obtain ⟨⟨n, l, r⟩, hrow, htup⟩ := told4.row i ak hak
      refine ⟨rfl, ?_⟩
      refine ⟨_, rfl, ak, _, 0, _, rfl, rfl, SqT.of (s5 _ _ htup), rfl, ?_⟩
      refine ⟨_, eD1, Evl.sz_lt (by rw [List.length_map, List.length_map, List.length_take]; omega), fun b o e => ?_, ?_⟩
      · rw [upd_ne (ne_of_none e hD1)]
        exact s5 _ _ e
      · rw [upd_same, List.take_succ, hrow, List.map_append, List.map_append]
        rfl
    rintro H5 ⟨s5, eD1⟩
    rw [las, List.take_length] at eD1
    unfold tNil
    show rSortedI K [.ref D1] H5 _
    refine ⟨D1, _, rfl, SqL.of eD1, fun ns' q hp hso hq => ?_⟩
    have ens : ns' = hereI hs j2 ws.length := sorted_uniq _ _ (hp.trans (here_perm R G hs')) hso (hereI_sorted _ _ _)
    subst ens
    have s6 := same_new (o := .lst ((hereI hs j2 ws.length).map V.int)) hq
    refine ⟨_, rfl, _, _, Dp.ints upd_same, Dp.ints (s6 _ _ (s5 _ _ eD)), ints_shaped _, ints_shaped _, ?_⟩
    rw [eqv_ints]
    refine ⟨_, rfl, iteF ?_⟩
    have s7 : Same H3 (upd H5 q (.lst ((hereI hs j2 ws.length).map V.int))) := fun b o e => s6 _ _ (s5 _ _ (s4 _ _ e))
    generalize upd H5 q _ = H6 at s7 ⊢
    -- each row
    have told6 := told3.same s7
    refine ⟨_, rfl, L, rfl, ⟨_, SqL.of told6.lst⟩, for_list (K := K) (a := L) (xs := as.map V.ref) (fun i σ H' => ∃ v7 : Option V, σ = [some (.ref p), some (.ref W), some (.ref X), some (.int (j2 : Int)), some (.ref L), some (.ref D), none, v7] ∧ Same H6 H') ?_ ?_ ?_ ?_⟩
    · exact ⟨none, rfl, fun _ _ e => e⟩
    · rintro i σ H' _ ⟨v7, _, s8⟩
      exact SqL.of (s8 _ _ told6.lst)
    · rintro i x σ H' hx ⟨v7, rfl, s8⟩
      rw [List.getElem?_map] at hx
      obtain ⟨ak, hak, rfl⟩ := Option.map_eq_some_iff.mp hx
      obtain ⟨⟨n, l, r⟩, hrow, htup⟩ := told6.row i ak hak
      obtain ⟨p1, p2, p3⟩ := part_ok hds (G.ho _ (get_mem hs')) (get_mem hrow)
      exact ⟨_, rfl, _, rfl, ak, W, ws, n, l, r, rfl, s8 _ _ htup, s8 _ _ (s7 _ _ W3), p1, p2, p3, fun H7 s9 => ⟨true, rfl, iteF ⟨_, rfl, fun b o e => s9 _ _ (s8 _ _ e)⟩⟩⟩
    rintro σ H' ⟨v7, rfl, s8⟩
    refine ⟨_, rfl, L, as, s, rfl, told6.same s8, ?_, fun H8 s9 => ⟨true, rfl, iteT ?_⟩⟩
    · rw [← size_nodes, ← subs_nodes, List.length_map]
      exact sl
    have s10 : Same H3 H8 := fun b o e => s9 _ _ (s8 _ _ (s7 _ _ e))
    refine ⟨_, rfl, _, rfl, W, _, rfl, .inl (SqL.of (s10 _ _ W3)), L, as, s, ws.length, by rw [List.length_map]; rfl, told3.same s10, G.lo _ (get_mem hs'), G.ndI hs', fun d hd => get_len (hds d hd), by omega, fun H9 s11 => ?_⟩
    have F9 : Fd T.c_Node T.c_Field H2 H9 p S := F3.later fun b o e => s11 _ _ (s10 _ _ e)
    -- what was new is forgotten
    obtain ⟨G9, dx9, lt9, ln9, A9⟩ := F9
    refine k H9 ⟨G9, dx9, lt9, ln9, fun b o hb => A9.same _ _ (s02 _ _ hb), s02.free A9.p0, s02.free A9.t0, s02.free A9.n0, A9.ob, A9.lts, A9.lns, A9.ne, fun t ht => ⟨(A9.tr t ht).1, fun b hb => s02.free ((A9.tr t ht).2 b hb)⟩⟩
/-- a number of doublings: 2 ^ d ≤ n + 1 < 2 ^ (d + 1) -/
def Lev (n : Int) (d : Nat) : Prop := (2 : Int) ^ d ≤ n + 1 ∧ n + 1 < 2 ^ (d + 1)
theorem lev_one {n : Int} {d e : Nat} (h : Lev n d) (g : Lev n e) : d = e := by
  by_cases c : d < e
  · have := two_mono (show d + 1 ≤ e by omega)
    have := h.2
    have := g.1
    omega
  · by_cases c2 : e < d
    · have := two_mono (show e + 1 ≤ d by omega)
      have := g.2
      have := h.1
      omega
    · omega
/-- there is one -/
theorem lev_ex (n : Nat) : Lev (n : Int) (n + 1).log2 := by
  have h1 : 2 ^ (n + 1).log2 ≤ n + 1 := Nat.log2_self_le (by omega)
  have h2 : n + 1 < 2 ^ ((n + 1).log2 + 1) := Nat.lt_log2_self
  refine ⟨?_, ?_⟩
  · have e : ((2 ^ (n + 1).log2 : Nat) : Int) = (2 : Int) ^ (n + 1).log2 := by simp
    rw [← e]
    omega
  · have e : ((2 ^ ((n + 1).log2 + 1) : Nat) : Int) = (2 : Int) ^ ((n + 1).log2 + 1) := by simp
    rw [← e]
    omega
/-- what a tree's run comes to -/
theorem lev_rk {t : Tre} (h : LO t) : t.rk ≤ (t.size + 1).log2 := (Nat.le_log2 (by omega)).mpr (rk_size h)
theorem lev_mono {m n : Nat} (h : m ≤ n) : (m + 1).log2 ≤ (n + 1).log2 := log2_mono (by omega)
def sp_levs : Sp := fun vs H Q _ => ∃ (n : Int) (d : Nat), vs = [.int n] ∧ Lev n d ∧ Q (.int (d : Int)) H
theorem ok_levs (T : Txt K mg) : FnOk P w K mg base CX0 1 T.a_l_levels T.d_l_levels ["_law_number"] sp_levs := by
  refine T.F_l_levels.ok sc_l_levels (fun vs H Q E h => ?_) (fun cdv A outer s H vs Q E hr h => ?_)
  · obtain ⟨n, d, rfl, _⟩ := h
    rfl
  · obtain ⟨n, dd, rfl, hl, k⟩ := h
    refine ⟨_, (pss_cons (ps_set (i := 1) sc_l_levels.nd rfl (.inl rfl) pe_int)
  (pss_cons (ps_set (i := 2) sc_l_levels.nd rfl (.inl rfl) pe_int)
  (pss_cons (ps_while PassesOwn.never (pt_cmpR op_le (pv 2) (pe_op op_add (pv 0) pe_int) (nomark _))
  (pss_cons (ps_set (i := 2) sc_l_levels.nd rfl (.inl rfl) (pe_op op_add (pv 2) (pv 2)))
  (pss_one (ps_set (i := 1) sc_l_levels.nd rfl (.inl rfl) (pe_op op_add (pv 1) pe_int)))))
  (pss_one (ps_ret (pv 1)))))), ?_⟩
    refine while_by (fun σ H' => ∃ d : Nat, σ = [some (.int n), some (.int (d : Int)), some (.int (2 ^ (d + 1)))] ∧ H = H' ∧ (2 : Int) ^ d ≤ n + 1)
      (fun σ _ => match σ with | [_, _, some (.int x)] => (n + 2 - x).toNat | _ => 0) ⟨0, rfl, rfl, by have := two_mono (Nat.zero_le dd); have := hl.1; simp only [Int.pow_zero] at *; omega⟩ ?_ ?_
    · rintro σ H' ⟨d, rfl, rfl, hd⟩
      refine ⟨_, rfl, _, rfl, _, _, rfl, rfl, _, _, rfl, rfl, _, rfl, t_2 (fun c => ?_) (fun c => ?_)⟩
      · refine ⟨_, rfl, _, rfl, _, _, rfl, rfl, ?_⟩
        refine ⟨_, rfl, _, _, rfl, rfl, ⟨d + 1, ?_, rfl, c⟩, ?_⟩
        · rw [two_succ (d + 1)]
          rfl
        · show (n + 2 - (2 ^ (d + 1) + 2 ^ (d + 1))).toNat < (n + 2 - 2 ^ (d + 1)).toNat
          have := two_pos (d + 1)
          omega
      · refine ⟨_, rfl, ?_⟩
        have e : d = dd := lev_one ⟨hd, by omega⟩ hl
        rw [e]
        exact k
    · rintro σ H' Q1 Q2 hq ⟨v, e, u, e2, i, j, e3, e4, x1, x2, e5, e6, b, e7, q⟩
      exact ⟨v, e, u, e2, i, j, e3, e4, x1, x2, e5, e6, b, e7, hq _ _ q⟩
end
/-! ### how much work a deed takes -/
def lg (n : Nat) : Nat := (n + 1).log2
theorem lg_mono {m n : Nat} (h : m ≤ n) : lg m ≤ lg n := log2_mono (by omega)
theorem rk_lg {t : Tre} (h : LO t) : t.spine ≤ lg t.size := by
  rw [spine_rk h]
  exact (Nat.le_log2 (by omega)).mpr (rk_size h)
theorem put_work {s : Tre} (h : LO s) (a : Addr) (i : Nat) (w : Int) (j : Nat) : (join s (leaf a i w j)).2 ≤ lg s.size := by
  by_cases c : s = .nil
  · rw [c, join_nil]
    exact Nat.zero_le _
  · have h1 := (join_count _ s (leaf a i w j) (Nat.le_refl _)).2 c (by intro z; cases z)
    have h2 := rk_lg h
    have h3 : (leaf a i w j).spine = 1 := rfl
    omega
theorem take_work {n : Nd} {l r : Tre} (h : LO (.nd n l r)) : (join l r).2 ≤ 2 * lg (Tre.nd n l r).size := by
  have h1 := (join_count _ l r (Nat.le_refl _)).1
  have h2 := rk_lg h.2.2.1
  have h3 := rk_lg h.2.2.2
  have e : (Tre.nd n l r).size = l.size + r.size + 1 := rfl
  have h4 := lg_mono (show l.size ≤ (Tre.nd n l r).size by omega)
  have h5 := lg_mono (show r.size ≤ (Tre.nd n l r).size by omega)
  omega
theorem pour_work {s u : Tre} (hs : LO s) (hu : LO u) : (join s u).2 ≤ lg s.size + lg u.size := by
  have h1 := (join_count _ s u (Nat.le_refl _)).1
  have h2 := rk_lg hs
  have h3 := rk_lg hu
  omega
theorem homed_size (j : Nat) (t : Tre) : (homed j t).size = t.size := by
  rw [← size_dats, homed_dats, List.length_map, size_dats]
theorem sink_work {n : Nd} {l r : Tre} {fs : List Up} (w : Int) (h : LO (plug (.nd n l r) fs)) : (sunk n l r w fs).2 ≤ 3 * lg (plug (.nd n l r) fs).size := by
  cases fs with
  | nil => exact Nat.zero_le _
  | cons f fs =>
    by_cases c : lt { n with w := w } f.n
    · rw [sunk_yes c]
      obtain ⟨h1, h2⟩ := LO_plug (f :: fs) _ h
      have hk : (Tre.nd n l r).rk = n.k := rfl
      have hkp : Tre.nil.rk < (Tre.nd n l r).rk := by
        rw [hk, h1.1]
        exact Nat.succ_pos _
      obtain ⟨B, hB1, hB2⟩ := climb_count (f :: fs) .nil _ trivial h2 hkp
      have e0 : Tre.nil.rk = 0 := rfl
      have hc := climb_LO (f :: fs) .nil _ trivial h2
      have es1 := (climb_dats (f :: fs) .nil).length_eq
      have es2 := (plug_dats (f :: fs) (.nd n l r)).length_eq
      rw [List.length_append] at es1 es2
      rw [size_dats] at es1 es2
      rw [size_dats] at es2
      have ed : (dats .nil).length = 0 := rfl
      have esz : (Tre.nd n l r).size = l.size + r.size + 1 := rfl
      have hlt : (climb .nil (f :: fs)).1.size + 1 ≤ (plug (.nd n l r) (f :: fs)).size := by omega
      have hBl : B + 1 ≤ lg (plug (.nd n l r) (f :: fs)).size + 1 := by
        have : B ≤ lg (plug (.nd n l r) (f :: fs)).size := (Nat.le_log2 (by omega)).mpr (by omega)
        omega
      have hcl := rk_lg hc
      have hcm := lg_mono (show (climb .nil (f :: fs)).1.size ≤ (plug (.nd n l r) (f :: fs)).size by omega)
      have hnl := rk_lg (nd_w_LO w h1)
      have hns : (Tre.nd { n with w := w } l r).size = (Tre.nd n l r).size := rfl
      have hnm := lg_mono (show (Tre.nd n l r).size ≤ (plug (.nd n l r) (f :: fs)).size by omega)
      rw [hns] at hnl
      have hne : (climb .nil (f :: fs)).1 ≠ .nil := fun z => by
        have := ref_climb (f :: fs) .nil .nil (.inr rfl)
        rw [z] at this
        have h9 := ref_plug (f :: fs) .nil (.nd n l r) (.inl (by intro q; cases q))
        rw [← this] at h9
        have hpne : plug (.nd n l r) (f :: fs) ≠ .nil := fun q => by
          have hz : (plug (.nd n l r) (f :: fs)).size = 0 := by rw [q]; rfl
          omega
        cases hp : plug (.nd n l r) (f :: fs) with
        | nil => exact hpne hp
        | nd a b d =>
          rw [hp] at h9
          cases h9
      have hj := (join_count _ (climb .nil (f :: fs)).1 (.nd { n with w := w } l r) (Nat.le_refl _)).2 hne (by intro z; cases z)
      show (climb .nil (f :: fs)).2 + (join (climb .nil (f :: fs)).1 (.nd { n with w := w } l r)).2 ≤ _
      omega
    · rw [sunk_no c]
      exact Nat.zero_le _
section
variable {P : Program} {w : World} {K : PySem.W.Frag} {mg : Str → Option Value} {base : Heap}
/-- some weight -/
def sp_weight10 : Sp := fun vs H Q _ => ∃ c k : Int, vs = [.int c, .int k] ∧ ∀ w : Int, Q (.int w) H
theorem ok_weight10 (T : Txt K mg) : FnOk P w K mg base CX0 1 T.a_l_weight T.d_l_weight ["_law_cell", "_law_k"] sp_weight10 := by
  refine T.F_l_weight.ok sc_l_weight (fun vs H Q E h => ?_) (fun cdv A outer s H vs Q E hr h => ?_)
  · obtain ⟨c, k, rfl, _⟩ := h
    rfl
  · obtain ⟨c, k', rfl, k⟩ := h
    refine ⟨_, (pss_cons (ps_if (pt_cmpR op_eq (pe_op (op_modK 4 (by decide)) (pv 0) pe_int) pe_int (nomark _))
  (pss_one (ps_ret (pe_op op_sub (pe_op (op_modK 9 (by decide)) (pe_op (op_fdivK 4 ⟨by decide, by decide⟩) (pv 0) pe_int) pe_int) pe_int)))
  pss_nil)
  (pss_cons (ps_if (pt_cmpR op_eq (pe_op (op_modK 4 (by decide)) (pv 0) pe_int) pe_int (nomark _))
  (pss_one (ps_ret (pe_op op_sub (pe_op (op_modK 2001 (by decide)) (pe_op (op_fdivK 4 ⟨by decide, by decide⟩) (pv 0) pe_int) pe_int) pe_int)))
  pss_nil)
  (pss_cons (ps_if (pt_cmpR op_eq (pe_op (op_modK 4 (by decide)) (pv 0) pe_int) pe_int (nomark _))
  (pss_one (ps_ret (pe_op (op_modK 3 (by decide)) (pe_op (op_fdivK 4 ⟨by decide, by decide⟩) (pv 0) pe_int) pe_int)))
  pss_nil)
  (pss_one (ps_ret (pe_un un_neg (pv 1))))))), ?_⟩
    refine ⟨_, rfl, _, rfl, rfl, rfl, _, rfl, t_2 (fun c0 => ?_) (fun c0 => ?_)⟩
    · exact ⟨_, rfl, _, rfl, rfl, _, rfl, rfl, _, _, rfl, rfl, k _⟩
    refine ⟨_, rfl, _, rfl, rfl, rfl, _, rfl, t_2 (fun c1 => ?_) (fun c1 => ?_)⟩
    · exact ⟨_, rfl, _, rfl, rfl, _, rfl, rfl, _, _, rfl, rfl, k _⟩
    refine ⟨_, rfl, _, rfl, rfl, rfl, _, rfl, t_2 (fun c2 => ?_) (fun c2 => ?_)⟩
    · exact ⟨_, rfl, _, rfl, rfl, _, rfl, rfl, k _⟩
    exact ⟨_, rfl, _, rfl, k _⟩
/-- what a deed leaves -/
def Left10 (C D : Addr) (H0 : Hp) (p W X : Addr) (S : Fs) (ws : List Int) (n : Nat) (Q : Hp → Prop) : Prop :=
  ∀ H0' H' S' ws' hs', K10 C D H0' H' p W X S' ws' hs' → Frame [W, X] H0 H0' → S'.ts.length = S.ts.length → ws.length ≤ ws'.length → ws'.length ≤ ws.length + n → Q H'
theorem lev_lg (n : Nat) : Lev (n : Int) (lg n) := lev_ex n
theorem frameW10 {W X : Addr} {H0 : Hp} {o : HO} : Frame [W, X] H0 (upd H0 W o) := Frame.wr List.mem_cons_self
theorem frameX10 {W X : Addr} {H0 : Hp} {o : HO} : Frame [W, X] H0 (upd H0 X o) := Frame.wr (List.mem_cons_of_mem _ List.mem_cons_self)
/-- things put -/
def sp_puts (C D : Addr) : Sp := fun vs H Q _ => ∃ (H0 : Hp) (p W X : Addr) (S : Fs) (ws : List Int) (hs : List (Option Nat)) (j n : Nat) (c : Int), vs = [.ref p, .ref W, .ref X, .int (j : Int), .int c, .int (n : Int)] ∧ K10 C D H0 H p W X S ws hs ∧ j < S.ts.length ∧ j < 90000 ∧ n ≤ 9 ∧ ws.length + n < 1000 ∧
  Left10 C D H0 p W X S ws n fun H' => Q (.bl true) H'
theorem ok_puts (T : Txt K mg) : FnOk P w K mg base CX0 28 T.a_l_puts T.d_l_puts ["_law_field", "_law_weights", "_law_homes", "_law_heap", "_law_more", "_law_count"] (sp_puts T.c_Node T.c_Field) := by
  have G_l_weight : FnOk P w K mg base CX0 27 _ _ _ _ := (ok_weight10 T).mono (by decide)
  have G_l_size : FnOk P w K mg base CX0 27 _ _ _ _ := (ok_size T).mono (by decide)
  have G_l_levels : FnOk P w K mg base CX0 27 _ _ _ _ := (ok_levs T).mono (by decide)
  have G_l_within : FnOk P w K mg base CX0 27 _ _ _ _ := (ok_within T).mono (by decide)
  have G_Field_put : FnOk P w K mg base (L2.CX P w) 27 _ _ _ _ := (ok_put T).mono (by decide)
  refine T.F_l_puts.ok sc_l_puts (fun vs H Q E h => ?_) (fun cdv A outer s H vs Q E hr h => ?_)
  · obtain ⟨H0, p, W, X, S, ws, hs, j, n, c, rfl, _⟩ := h
    rfl
  · obtain ⟨H0, p, W, X, S, ws, hs, j, n, c, rfl, k8, hj, hj9, hn, hlen, k⟩ := h
    refine ⟨_, (pss_cons (ps_for PassesOwn.never rfl (pi_range1 (by rfl) T.z_range (pa_cons (pv 5) pa_nil)) (pg_name (i := 6) sc_l_puts.nd rfl (.inl rfl))
  (pss_cons (ps_set (i := 7) sc_l_puts.nd rfl (.inl rfl) (pe_call G_l_size hr rfl T.g_l_size T.F_l_size.kp T.b_l_size .nil pass0 (pa_cons (pv 2) (pa_cons (pv 3) pa_nil))))
  (pss_cons (ps_expr (pe_bm PySem.F.plainAttrs_list PySem.F.slot_list_append PySem.F.type_list_append mt_append (pv 1) (pa_cons (pe_call G_l_weight hr rfl T.g_l_weight T.F_l_weight.kp T.b_l_weight .nil pass0 (pa_cons (pe_op op_add (pv 4) (pe_op op_mul (pe_op op_mul pe_int (pv 6)) (pv 6))) (pa_cons (pe_callB call_len_seq (by rfl) T.z_len PySem.boot_len (pa_cons (pv 1) pa_nil)) pa_nil))) pa_nil)))
  (pss_cons (ps_expr (pe_bm PySem.F.plainAttrs_list PySem.F.slot_list_append PySem.F.type_list_append mt_append (pv 2) (pa_cons (pv 3) pa_nil)))
  (pss_cons (ps_expr (pe_meth (pv 0) T.cl_Field T.m_Field_put G_Field_put hr T.b_Field_put .nil passL (pa_cons (pv 3) (pa_cons (pe_ix ix_list (pv 1) (pe_op op_sub (pe_callB call_len_seq (by rfl) T.z_len PySem.boot_len (pa_cons (pv 1) pa_nil)) pe_int) (fun _ _ => rfl)) pa_nil))))
  (pss_one (ps_if (pt_not (pt_val (pe_call G_l_within hr rfl T.g_l_within T.F_l_within.kp T.b_l_within .nil pass0 (pa_cons (pv 0) (pa_cons (pe_call G_l_levels hr rfl T.g_l_levels T.F_l_levels.kp T.b_l_levels .nil pass0 (pa_cons (pv 7) pa_nil)) pa_nil)))))
  (pss_one (ps_ret pe_bl))
  pss_nil)))))))
  (pss_one (ps_ret pe_bl))), ?_⟩
    refine ⟨_, rfl, (n : Int), rfl, by omega, by omega, for_range (lo := 0) (n := _) (fun i σ H' => ∃ (H1 : Hp) (S1 : Fs) (ws1 : List Int) (hs1 : List (Option Nat)) (v6 v7 : Option V), σ = [some (.ref p), some (.ref W), some (.ref X), some (.int (j : Int)), some (.int c), some (.int (n : Int)), v6, v7] ∧
      K10 T.c_Node T.c_Field H1 H' p W X S1 ws1 hs1 ∧ Frame [W, X] H0 H1 ∧ S1.ts.length = S.ts.length ∧ ws1.length = ws.length + i) ⟨H0, S, ws, hs, none, none, rfl, k8, Frame.refl, rfl, rfl⟩ ?_ ?_⟩
    · rintro i σ H' hi ⟨H1, S1, ws1, hs1, v6, v7, rfl, k1, f1, e1, l1⟩
      rw [Int.toNat_natCast] at hi
      rw [Int.zero_add]
      have hn1 := k1.R.n1
      have hn2 := k1.R.n2
      obtain ⟨s1, hs1'⟩ : ∃ s1, S1.ts[j]? = some s1 := ⟨S1.ts[j]'(by omega), List.getElem?_eq_getElem (by omega)⟩
      have hcs : cnt hs1 j = s1.size := by rw [← cnt_rows hn2, k1.R.size k1.F.1 hs1']
      -- the size
      refine ⟨_, rfl, _, rfl, X, hs1, j, rfl, k1.F.same _ _ k1.x, by omega, fun H2 s2 => ?_⟩
      rw [hcs]
      have F2 := k1.F.later s2
      -- the weight
      refine ⟨_, rfl, .inl ⟨rfl, _, SqL.of (F2.same _ _ k1.w)⟩, _, rfl, _, rfl, _, _, rfl, rfl, .inl ⟨by decide, by decide⟩, _, rfl, _, _, rfl, rfl, .inr ⟨by omega, by omega⟩, _, _, rfl, rfl, _, rfl, W, _, rfl, .inl (SqL.of (F2.same _ _ k1.w)), _, _, rfl, fun we => ?_⟩
      refine ⟨W, _, _, rfl, rfl, F2.same _ _ k1.w, Evl.sz_lt (by rw [List.length_map]; omega), ?_⟩
      have F3 := F2.wr (q := W) (o := .lst (ws1.map V.int ++ [.int we])) (.inl (by rw [k1.w]; intro z; cases z))
      have x3 : (upd H1 W (.lst (ws1.map V.int ++ [.int we]))) X = some (.lst (hs1.map hV)) := by
        rw [upd_ne k1.ne.symm]
        exact k1.x
      have w3 : (upd H1 W (.lst (ws1.map V.int ++ [.int we]))) W = some (.lst ((ws1 ++ [we]).map V.int)) := by
        rw [upd_same, List.map_append]
        rfl
      have f3 : Frame [W, X] H1 (upd H1 W (.lst (ws1.map V.int ++ [.int we]))) := frameW10
      generalize upd H1 W (.lst (ws1.map V.int ++ [.int we])) = H03 at F3 x3 w3 f3
      generalize upd H2 W (.lst (ws1.map V.int ++ [.int we])) = H3 at F3 ⊢
      refine ⟨_, rfl, .inl ⟨rfl, _, SqL.of (F3.same _ _ x3)⟩, _, rfl, X, _, _, rfl, rfl, F3.same _ _ x3, Evl.sz_lt (by rw [List.length_map]; omega), ?_⟩
      have F4 := F3.wr (q := X) (o := .lst (hs1.map hV ++ [.int (j : Int)])) (.inl (by rw [x3]; intro z; cases z))
      have w4 : (upd H03 X (.lst (hs1.map hV ++ [.int (j : Int)]))) W = some (.lst ((ws1 ++ [we]).map V.int)) := by
        rw [upd_ne k1.ne]
        exact w3
      have x4 : (upd H03 X (.lst (hs1.map hV ++ [.int (j : Int)]))) X = some (.lst ((hs1 ++ [some j]).map hV)) := by
        rw [upd_same, List.map_append]
        rfl
      have f4 : Frame [W, X] H03 (upd H03 X (.lst (hs1.map hV ++ [.int (j : Int)]))) := frameX10
      generalize upd H03 X (.lst (hs1.map hV ++ [.int (j : Int)])) = H04 at F4 w4 x4 f4
      generalize upd H3 X (.lst (hs1.map hV ++ [.int (j : Int)])) = H4 at F4 ⊢
      -- the put
      obtain ⟨dx, lt, ln, ob, no⟩ := F4.obj
      have lw3 : (((ws1 ++ [we]).map V.int).length : Int) - 1 = ((ws1.length : Nat) : Int) := by
        rw [List.length_map, List.length_append, List.length_singleton]
        omega
      have atw : ((ws1 ++ [we]).map V.int)[ws1.length]? = some (V.int we) := int_at (by rw [List.getElem?_append_right (Nat.le_refl _), Nat.sub_self]; rfl)
      refine ⟨_, rfl, p, dx, _, rfl, ob, no _ (by decide +kernel) (by decide +kernel) (by decide +kernel), _, rfl, _, rfl, _, rfl, W, _, rfl, .inl (SqL.of (F4.same _ _ w4)), _, _, rfl, rfl, W, _, _, _, rfl, rfl, SqL.of (F4.same _ _ w4), at_of (j := ws1.length) lw3 atw, H04, p, S1, (j : Int), we, rfl, F4, by omega, fun j' ej hj' H5 a' ha' F5 => ?_, fun z => absurd ⟨by omega, by omega⟩ z⟩
      have ej2 : j' = j := by omega
      subst ej2
      have hwk : (S1.put j' a' we).wk = ((join s1 (leaf a' S1.ns.length we j')).2 : Int) := by
        unfold Fs.put
        rw [getD_of hs1']
      have hpw := put_work (k1.F.1.lo _ (get_mem hs1')) a' S1.ns.length we j'
      refine ⟨_, rfl, _, rfl, _, lg s1.size, rfl, lev_lg _, H04, p, S1.put j' a' we, lg s1.size, rfl, F5, by rw [hwk]; omega, by rw [hwk]; omega, true, rfl, iteF ?_⟩
      refine ⟨H04, S1.put j' a' we, ws1 ++ [we], hs1 ++ [some j'], _, _, rfl, ⟨F5, k1.R.put hs1' a' we, w4, x4, k1.ne⟩, (f1.trans f3).trans f4, ?_, ?_⟩
      · show (S1.ts.set j' _).length = _
        rw [List.length_set]
        exact e1
      · rw [List.length_append, l1]
        rfl
    · rintro σ H' ⟨H1, S1, ws1, hs1, v6, v7, rfl, k1, f1, e1, l1⟩
      rw [Int.toNat_natCast] at l1
      exact k H1 H' S1 ws1 hs1 k1 f1 e1 (by omega) (by omega)
/-- things taken -/
def sp_takes (C D : Addr) : Sp := fun vs H Q _ => ∃ (H0 : Hp) (p W X : Addr) (S : Fs) (ws : List Int) (hs : List (Option Nat)) (j n : Nat), vs = [.ref p, .ref X, .int (j : Int), .int (n : Int)] ∧ K10 C D H0 H p W X S ws hs ∧ j < S.ts.length ∧ j < 90000 ∧ n ≤ 90000 ∧
  Left10 C D H0 p W X S ws 0 fun H' => Q (.bl true) H'
theorem join_size (s t : Tre) : (join s t).1.size = s.size + t.size := by
  have := (joinD s t).length_eq
  rw [List.length_append, size_dats, size_dats, size_dats] at this
  exact this
theorem ok_takes (T : Txt K mg) : FnOk P w K mg base CX0 28 T.a_l_takes T.d_l_takes ["_law_field", "_law_homes", "_law_heap", "_law_count"] (sp_takes T.c_Node T.c_Field) := by
  have G_l_size : FnOk P w K mg base CX0 27 _ _ _ _ := (ok_size T).mono (by decide)
  have G_l_levels : FnOk P w K mg base CX0 27 _ _ _ _ := (ok_levs T).mono (by decide)
  have G_l_within : FnOk P w K mg base CX0 27 _ _ _ _ := (ok_within T).mono (by decide)
  have G_Field_take : FnOk P w K mg base (L2.CX P w) 27 _ _ _ _ := (ok_take T).mono (by decide)
  refine T.F_l_takes.ok sc_l_takes (fun vs H Q E h => ?_) (fun cdv A outer s H vs Q E hr h => ?_)
  · obtain ⟨H0, p, W, X, S, ws, hs, j, n, rfl, _⟩ := h
    rfl
  · obtain ⟨H0, p, W, X, S, ws, hs, j, n, rfl, k8, hj, hj9, hn, k⟩ := h
    refine ⟨_, (pss_cons (ps_for PassesOwn.never rfl (pi_range1 (by rfl) T.z_range (pa_cons (pe_callB (call_min2 rfl) (by rfl) T.z_min (by decide +kernel) (pa_cons (pv 3) (pa_cons (pe_call G_l_size hr rfl T.g_l_size T.F_l_size.kp T.b_l_size .nil pass0 (pa_cons (pv 1) (pa_cons (pv 2) pa_nil))) pa_nil))) pa_nil)) (pg_name (i := 4) sc_l_takes.nd rfl (.inl rfl))
  (pss_cons (ps_set (i := 5) sc_l_takes.nd rfl (.inl rfl) (pe_call G_l_size hr rfl T.g_l_size T.F_l_size.kp T.b_l_size .nil pass0 (pa_cons (pv 1) (pa_cons (pv 2) pa_nil))))
  (pss_cons (ps_asg pe_non (pg_sub (pv 1) (pe_ix ix_tup (pe_meth (pv 0) T.cl_Field T.m_Field_take G_Field_take hr T.b_Field_take .nil passL (pa_cons (pv 2) pa_nil)) pe_int (fun _ _ => rfl)) set_list))
  (pss_one (ps_if (pt_not (pt_val (pe_call G_l_within hr rfl T.g_l_within T.F_l_within.kp T.b_l_within .nil pass0 (pa_cons (pv 0) (pa_cons (pe_op op_mul pe_int (pe_call G_l_levels hr rfl T.g_l_levels T.F_l_levels.kp T.b_l_levels .nil pass0 (pa_cons (pv 5) pa_nil))) pa_nil)))))
  (pss_one (ps_ret pe_bl))
  pss_nil)))))
  (pss_one (ps_ret pe_bl))), ?_⟩
    obtain ⟨t, ht⟩ : ∃ t, S.ts[j]? = some t := ⟨S.ts[j], List.getElem?_eq_getElem hj⟩
    have hcs : cnt hs j = t.size := by rw [← cnt_rows k8.R.n2, k8.R.size k8.F.1 ht]
    have hlen := k8.F.1.len
    have hn1 := k8.R.n1
    have hn2 := k8.R.n2
    have htz := k8.F.1.size ht
    refine ⟨_, rfl, _, rfl, _, rfl, X, hs, j, rfl, k8.F.same _ _ k8.x, by omega, fun H2 s2 => ?_⟩
    rw [hcs]
    have k9 : K10 T.c_Node T.c_Field H0 H2 p W X S ws hs := ⟨k8.F.later s2, k8.R, k8.w, k8.x, k8.ne⟩
    obtain ⟨N, hN, hNt⟩ : ∃ N : Nat, (if (t.size : Int) < (n : Int) then (t.size : Int) else (n : Int)) = (N : Int) ∧ N ≤ t.size := by
      split
      · exact ⟨t.size, rfl, Nat.le_refl _⟩
      · exact ⟨n, rfl, by omega⟩
    refine ⟨_, _, rfl, (N : Int), congrArg (fun z => [V.int z]) hN, by omega, by omega, for_range (lo := 0) (n := _) (fun i σ H' => ∃ (H1 : Hp) (S1 : Fs) (hs1 : List (Option Nat)) (t1 : Tre) (v4 v5 : Option V), σ = [some (.ref p), some (.ref X), some (.int (j : Int)), some (.int (n : Int)), v4, v5] ∧
      K10 T.c_Node T.c_Field H1 H' p W X S1 ws hs1 ∧ Frame [W, X] H0 H1 ∧ S1.ts.length = S.ts.length ∧ S1.ts[j]? = some t1 ∧ t1.size + i = t.size) ⟨H0, S, hs, t, none, none, rfl, k9, Frame.refl, rfl, ht, rfl⟩ ?_ ?_⟩
    · rintro i σ H' hi ⟨H1, S1, hs1, t1, v4, v5, rfl, k1, f1, e1, ht1, z1⟩
      rw [Int.toNat_natCast] at hi
      rw [Int.zero_add]
      have hc1 : cnt hs1 j = t1.size := by rw [← cnt_rows k1.R.n2, k1.R.size k1.F.1 ht1]
      have hnn1 := k1.R.n1
      have hnn2 := k1.R.n2
      refine ⟨_, rfl, _, rfl, X, hs1, j, rfl, k1.F.same _ _ k1.x, by omega, fun H3 s3 => ?_⟩
      rw [hc1]
      have F3 := k1.F.later s3
      cases t1 with
      | nil =>
        have z0 : Tre.nil.size = 0 := rfl
        omega
      | nd m l r =>
      obtain ⟨dx, lt, ln, ob, no⟩ := F3.obj
      refine ⟨_, rfl, _, rfl, p, dx, _, rfl, ob, no _ (by decide +kernel) (by decide +kernel) (by decide +kernel), _, rfl, H1, p, S1, (j : Int), rfl, F3, nat_log (by omega), fun j2 n2 l2 r2 ej h2 H4 q4 hq4 F4 => ?_, fun j2 ej h2 => ?_, fun z => z ⟨by omega, by omega⟩⟩
      · have ej2 : j2 = j := by omega
        subst ej2
        rw [ht1] at h2
        cases h2
        have kq4 := F4.same _ _ (upd_same (H := H1) (a := q4) (o := .tup [.int m.w, .int (m.i : Int)]))
        have s4 : Same H1 (upd H1 q4 (.tup [.int m.w, .int (m.i : Int)])) := same_new hq4
        have x4 := s4 _ _ k1.x
        have w4 := s4 _ _ k1.w
        generalize upd H1 q4 (.tup [.int m.w, .int (m.i : Int)]) = H14 at F4 s4 x4 w4
        have hni : m.i < hs1.length := get_len (k1.R.to j2 _ ht1 m.dat (by rw [dats_nd]; exact List.mem_cons_self)).2
        refine ⟨q4, _, 1, .int (m.i : Int), rfl, rfl, SqT.of kq4, rfl, X, _, _, m.i, rfl, rfl, F4.same _ _ x4, Evl.ixN_nat (by rw [List.length_map]; exact hni), ?_⟩
        have F5 := F4.wr (q := X) (o := .lst ((hs1.map hV).set m.i .non)) (.inl (by rw [x4]; intro z; cases z))
        have htw := take_work (k1.F.1.lo _ (get_mem ht1))
        have hwk : (S1.take j2 m l r).wk = ((join l r).2 : Int) := rfl
        refine ⟨_, rfl, _, rfl, _, lg (Tre.nd m l r).size, rfl, lev_lg _, _, _, rfl, rfl, .inl ⟨by decide, by decide⟩, _, p, S1.take j2 m l r, 2 * lg (Tre.nd m l r).size, by rw [Int.natCast_mul]; rfl, F5, by rw [hwk]; omega, by rw [hwk]; omega, true, rfl, iteF ?_⟩
        refine ⟨_, S1.take j2 m l r, hs1.set m.i none, (join l r).1, _, _, rfl, ⟨F5, k1.R.take k1.F.1 ht1, ?_, ?_, k1.ne⟩, (f1.trans (fun b o e _ => s4 b o e)).trans frameX10, ?_, ?_, ?_⟩
        · rw [upd_ne k1.ne]
          exact w4
        · rw [upd_same, List.map_set]
          rfl
        · show (S1.ts.set j2 _).length = _
          rw [List.length_set]
          exact e1
        · show (S1.ts.set j2 _)[j2]? = _
          rw [List.getElem?_set_self (get_len ht1)]
        · rw [join_size]
          have e : (Tre.nd m l r).size = l.size + r.size + 1 := rfl
          omega
      · have ej2 : j2 = j := by omega
        subst ej2
        rw [ht1] at h2
        cases h2
    · rintro σ H' ⟨H1, S1, hs1, t1, v4, v5, rfl, k1, f1, e1, _, _⟩
      exact k H1 H' S1 ws hs1 k1 f1 e1 (Nat.le_refl _) (Nat.le_refl _)
/-- a heap poured -/
def sp_pours (C D : Addr) : Sp := fun vs H Q _ => ∃ (H0 : Hp) (p W X : Addr) (S : Fs) (ws : List Int) (hs : List (Option Nat)) (j o : Nat), vs = [.ref p, .ref X, .int (j : Int), .int (o : Int)] ∧ K10 C D H0 H p W X S ws hs ∧ j < S.ts.length ∧ o < S.ts.length ∧ j < 90000 ∧ o < 90000 ∧ j ≠ o ∧
  Left10 C D H0 p W X S ws 0 fun H' => Q (.bl true) H'
theorem ok_pours (T : Txt K mg) : FnOk P w K mg base CX0 28 T.a_l_pours T.d_l_pours ["_law_field", "_law_homes", "_law_heap", "_law_other"] (sp_pours T.c_Node T.c_Field) := by
  have G_l_size : FnOk P w K mg base CX0 27 _ _ _ _ := (ok_size T).mono (by decide)
  have G_l_levels : FnOk P w K mg base CX0 27 _ _ _ _ := (ok_levs T).mono (by decide)
  have G_l_within : FnOk P w K mg base CX0 27 _ _ _ _ := (ok_within T).mono (by decide)
  have G_Field_pour : FnOk P w K mg base (L2.CX P w) 27 _ _ _ _ := (ok_pour T).mono (by decide)
  refine T.F_l_pours.ok sc_l_pours (fun vs H Q E h => ?_) (fun cdv A outer s H vs Q E hr h => ?_)
  · obtain ⟨H0, p, W, X, S, ws, hs, j, o, rfl, _⟩ := h
    rfl
  · obtain ⟨H0, p, W, X, S, ws, hs, j, o, rfl, k8, hj, ho, hj9, ho9, hne, k⟩ := h
    refine ⟨_, (pss_cons (ps_set (i := 4) sc_l_pours.nd rfl (.inl rfl) (pe_op op_add (pe_call G_l_levels hr rfl T.g_l_levels T.F_l_levels.kp T.b_l_levels .nil pass0 (pa_cons (pe_call G_l_size hr rfl T.g_l_size T.F_l_size.kp T.b_l_size .nil pass0 (pa_cons (pv 1) (pa_cons (pv 2) pa_nil))) pa_nil)) (pe_call G_l_levels hr rfl T.g_l_levels T.F_l_levels.kp T.b_l_levels .nil pass0 (pa_cons (pe_call G_l_size hr rfl T.g_l_size T.F_l_size.kp T.b_l_size .nil pass0 (pa_cons (pv 1) (pa_cons (pv 3) pa_nil))) pa_nil))))
  (pss_cons (ps_expr (pe_meth (pv 0) T.cl_Field T.m_Field_pour G_Field_pour hr T.b_Field_pour .nil passL (pa_cons (pv 2) (pa_cons (pv 3) pa_nil))))
  (pss_cons (ps_for PassesOwn.never rfl (pi_range1 (by rfl) T.z_range (pa_cons (pe_callB call_len_seq (by rfl) T.z_len PySem.boot_len (pa_cons (pv 1) pa_nil)) pa_nil)) (pg_name (i := 5) sc_l_pours.nd rfl (.inl rfl))
  (pss_one (ps_if (pt_cmpR (op_eqD hr.units) (pe_ix ix_list (pv 1) (pv 5) (fun _ _ => rfl)) (pv 3) (nomark _))
  (pss_one (ps_asg (pv 2) (pg_sub (pv 1) (pv 5) set_list)))
  pss_nil)))
  (pss_one (ps_ret (pe_call G_l_within hr rfl T.g_l_within T.F_l_within.kp T.b_l_within .nil pass0 (pa_cons (pv 0) (pa_cons (pv 4) pa_nil)))))))), ?_⟩
    obtain ⟨t, ht⟩ : ∃ t, S.ts[j]? = some t := ⟨S.ts[j], List.getElem?_eq_getElem hj⟩
    obtain ⟨u, hu⟩ : ∃ u, S.ts[o]? = some u := ⟨S.ts[o], List.getElem?_eq_getElem ho⟩
    have G := k8.F.1
    have hcs : cnt hs j = t.size := by rw [← cnt_rows k8.R.n2, k8.R.size G ht]
    have hcu : cnt hs o = u.size := by rw [← cnt_rows k8.R.n2, k8.R.size G hu]
    have hlen := G.len
    have hn1 := k8.R.n1
    have hn2 := k8.R.n2
    refine ⟨_, rfl, _, rfl, X, hs, j, rfl, k8.F.same _ _ k8.x, by omega, fun H2 s2 => ?_⟩
    rw [hcs]
    have F2 := k8.F.later s2
    refine ⟨_, lg t.size, rfl, lev_lg _, _, rfl, _, rfl, X, hs, o, rfl, F2.same _ _ k8.x, by omega, fun H3 s3 => ?_⟩
    rw [hcu]
    have F3 := F2.later s3
    obtain ⟨dx, lt, ln, ob, no⟩ := F3.obj
    refine ⟨_, lg u.size, rfl, lev_lg _, _, _, rfl, rfl, ?_⟩
    refine ⟨_, rfl, p, dx, _, rfl, ob, no _ (by decide +kernel) (by decide +kernel) (by decide +kernel), _, rfl, _, rfl, H0, p, S, (j : Int), (o : Int), rfl, F3, nat_log (by omega), nat_log (by omega), fun j2 o2 ej eo hne2 hj2 ho2 H4 F4 => ?_, fun z => ?_, fun _ z => ?_⟩
    rotate_left
    · rcases z with z | z
      · exact absurd ⟨by omega, by omega⟩ z
      · exact absurd ⟨by omega, by omega⟩ z
    · omega
    have ej2 : j2 = j := by omega
    subst ej2
    have eo2 : o2 = o := by omega
    subst eo2
    have x4 := F4.same _ _ k8.x
    have eh : (hs.map hV).length = hs.length := List.length_map _
    have self : upd H4 X (.lst (hs.map hV)) = H4 := by
      funext b
      by_cases c : b = X
      · rw [c, upd_same, x4]
      · rw [upd_ne c]
    refine ⟨_, rfl, X, _, rfl, .inl (SqL.of x4), _, rfl, by omega, by rw [eh]; omega, for_range (lo := 0) (n := _) (fun i σ H' => ∃ v5 : Option V, σ = [some (.ref p), some (.ref X), some (.int (j2 : Int)), some (.int (o2 : Int)), some (.int ((lg t.size : Int) + (lg u.size : Int))), v5] ∧ H' = upd H4 X (.lst ((moved j2 o2 (hs.take i) ++ hs.drop i).map hV))) ⟨none, rfl, ?_⟩ ?_ ?_⟩
    · rw [List.take_zero, List.drop_zero]
      exact self.symm
    · rintro i σ H' hi ⟨v5, rfl, rfl⟩
      rw [Int.toNat_natCast, eh] at hi
      rw [Int.zero_add]
      have hxi : hs[i]? = some hs[i] := List.getElem?_eq_getElem hi
      have hd : hs.drop i = hs[i] :: hs.drop (i + 1) := List.drop_eq_getElem_cons hi
      have ht : hs.take (i + 1) = hs.take i ++ [hs[i]] := by
        rw [List.take_succ, hxi]
        rfl
      have lt : (moved j2 o2 (hs.take i)).length = i := by
        unfold moved
        rw [List.length_map, List.length_take]
        omega
      generalize hs[i] = x at hxi hd ht
      have atc : ((moved j2 o2 (hs.take i) ++ hs.drop i).map hV)[i]? = some (hV x) := hV_at (by rw [List.getElem?_append_right (by omega), lt, Nat.sub_self, hd]; rfl)
      have mv : moved j2 o2 (hs.take (i + 1)) = moved j2 o2 (hs.take i) ++ [if x = some o2 then some j2 else x] := by
        rw [ht]
        unfold moved
        rw [List.map_append]
        rfl
      refine ⟨_, rfl, _, rfl, X, _, _, _, rfl, rfl, SqL.of upd_same, at_of (j := i) rfl atc, _, rfl, _, _, Dp.home x, .int (o2 : Int), shaped_home x, rfl, ?_⟩
      rw [eqv_home]
      refine ⟨_, rfl, t_2 (fun c => ?_) (fun c => ?_)⟩
      · refine ⟨_, rfl, _, rfl, _, rfl, X, _, _, i, rfl, rfl, upd_same, Evl.ixN_nat (by rw [List.length_map, List.length_append, lt, hd, List.length_cons]; omega), ?_⟩
        refine ⟨_, rfl, ?_⟩
        rw [upd_upd, mv, if_pos c]
        refine congrArg (fun l => upd H4 X (.lst l)) ?_
        rw [hd, List.map_append, List.map_append, List.map_append, List.set_append_right _ _ (by rw [List.length_map, lt]; exact Nat.le_refl _), List.length_map, lt, Nat.sub_self, List.append_assoc]
        rfl
      · refine ⟨_, rfl, ?_⟩
        rw [mv, if_neg c, hd, List.append_assoc]
        rfl
    · rintro σ H' ⟨v5, rfl, rfl⟩
      rw [Int.toNat_natCast, eh, List.take_length, List.drop_length, List.append_nil]
      have F5 := F4.wr (q := X) (o := .lst ((moved j2 o2 hs).map hV)) (.inl (by rw [k8.x]; intro z; cases z))
      have hwk : (S.pour j2 o2).wk = ((join t (homed j2 u)).2 : Int) := by
        unfold Fs.pour
        rw [getD_of ht, getD_of hu]
      have hpw := pour_work (G.lo _ (get_mem ht)) (homed_LO j2 (G.lo _ (get_mem hu)))
      rw [homed_size] at hpw
      refine ⟨_, rfl, _, rfl, _, p, S.pour j2 o2, lg t.size + lg u.size, by rw [Int.natCast_add]; rfl, F5, by rw [hwk]; omega, by rw [hwk]; omega, ?_⟩
      refine k _ _ (S.pour j2 o2) ws (moved j2 o2 hs) ⟨F5, k8.R.pour ht hu hne, ?_, upd_same, k8.ne⟩ frameX10 ?_ (Nat.le_refl _) (Nat.le_refl _)
      · rw [upd_ne k8.ne]
        exact k8.w
      · show ((S.ts.set o2 _).set j2 _).length = _
        rw [List.length_set, List.length_set]
/-- the numbers of the things that lie -/
def lyI (hs : List (Option Nat)) (m : Nat) : List Nat := (List.range m).filter fun k => (hs.getD k none).isSome
theorem lyI_yes {hs : List (Option Nat)} {m : Nat} (h : (hs.getD m none).isSome = true) : lyI hs (m + 1) = lyI hs m ++ [m] := by
  unfold lyI
  rw [List.range_succ, List.filter_append, List.filter_cons_of_pos (p := fun k => (hs.getD k none).isSome) h, List.filter_nil]
theorem lyI_no {hs : List (Option Nat)} {m : Nat} (h : ¬ (hs.getD m none).isSome = true) : lyI hs (m + 1) = lyI hs m := by
  unfold lyI
  rw [List.range_succ, List.filter_append, List.filter_cons_of_neg (p := fun k => (hs.getD k none).isSome) h, List.filter_nil, List.append_nil]
def natV (l : List Nat) : List V := (l.map fun k : Nat => (k : Int)).map V.int
theorem natV_len (l : List Nat) : (natV l).length = l.length := by
  unfold natV
  rw [List.length_map, List.length_map]
/-- a thing sinks -/
def sp_sinks (C D : Addr) : Sp := fun vs H Q _ => ∃ (H0 : Hp) (p W X : Addr) (S : Fs) (ws : List Int) (hs : List (Option Nat)) (e : Int), vs = [.ref p, .ref W, .ref X, .int e] ∧ K10 C D H0 H p W X S ws hs ∧
  Left10 C D H0 p W X S ws 0 fun H' => Q (.bl true) H'
theorem ok_sinks (T : Txt K mg) : FnOk P w K mg base CX0 28 T.a_l_sinks T.d_l_sinks ["_law_field", "_law_weights", "_law_homes", "_law_more"] (sp_sinks T.c_Node T.c_Field) := by
  have G_l_size : FnOk P w K mg base CX0 27 _ _ _ _ := (ok_size T).mono (by decide)
  have G_l_levels : FnOk P w K mg base CX0 27 _ _ _ _ := (ok_levs T).mono (by decide)
  have G_l_within : FnOk P w K mg base CX0 27 _ _ _ _ := (ok_within T).mono (by decide)
  have G_Field_sink : FnOk P w K mg base (L2.CX P w) 27 _ _ _ _ := (ok_sink T).mono (by decide)
  refine T.F_l_sinks.ok sc_l_sinks (fun vs H Q E h => ?_) (fun cdv A outer s H vs Q E hr h => ?_)
  · obtain ⟨H0, p, W, X, S, ws, hs, e, rfl, _⟩ := h
    rfl
  · obtain ⟨H0, p, W, X, S, ws, hs, e, rfl, k8, k⟩ := h
    refine ⟨_, (pss_cons (ps_setLc (i := 4) (own := [("_law_k", 5)]) (by rfl) sc_l_sinks.nd rfl rfl (sw_true rfl rfl rfl (by decide +kernel)) (pi_range1 (by rfl) T.z_range (pa_cons (pe_callB call_len_seq (by rfl) T.z_len PySem.boot_len (pa_cons (pv 2) pa_nil)) pa_nil)) (blkOk_by (N := N_l_sinks) (sc := defScope s_l_sinks) (by decide +kernel)) (fun _ _ _ _ _ => (pg_name (i := 5) sc_l_sinks.nd rfl (.inl rfl))) (fun _ _ _ _ _ => (pts_one (pt_cmpR op_notN (pe_ix (ix_listK (K := K) rfl) (pv 2) (pv 5) (fun _ _ => rfl)) pe_non (nomark _)))) (fun _ _ _ _ _ => (pv 5)))
  (pss_cons (ps_if (pt_cmpR (op_eqD hr.units) (pv 4) (pe_lst pa_nil) (nomark _))
  (pss_one (ps_ret pe_bl))
  pss_nil)
  (pss_cons (ps_set (i := 6) sc_l_sinks.nd rfl (.inl rfl) (pe_ix ix_list (pv 4) (pe_op op_mod (pv 3) (pe_callB call_len_seq (by rfl) T.z_len PySem.boot_len (pa_cons (pv 4) pa_nil))) (fun _ _ => rfl)))
  (pss_cons (ps_set (i := 7) sc_l_sinks.nd rfl (.inl rfl) (pe_op op_fdiv (pv 3) (pe_callB call_len_seq (by rfl) T.z_len PySem.boot_len (pa_cons (pv 4) pa_nil))))
  (pss_cons (ps_set (i := 8) sc_l_sinks.nd rfl (.inl rfl) (pe_call G_l_size hr rfl T.g_l_size T.F_l_size.kp T.b_l_size .nil pass0 (pa_cons (pv 2) (pa_cons (pe_ix ix_list (pv 2) (pv 6) (fun _ _ => rfl)) pa_nil))))
  (C8.pss_cut (ps_if (pt_cmpR op_eq (pe_op (op_modK 3 (by decide)) (pv 7) pe_int) pe_int (nomark _))
  (pss_one (ps_asg (pe_op op_sub (pe_ix ix_list (pv 1) (pv 6) (fun _ _ => rfl)) (pe_op (op_modK 40 (by decide)) (pe_op (op_fdivK 3 ⟨by decide, by decide⟩) (pv 7) pe_int) pe_int)) (pg_sub (pv 1) (pv 6) set_list)))
  (pss_one (ps_asg (pe_callB (call_min2 rfl) (by rfl) T.z_min (by decide +kernel) (pa_cons (pe_ix ix_list (pv 1) (pv 6) (fun _ _ => rfl)) (pa_cons (pe_op op_sub (pe_op (op_modK 4001 (by decide)) (pe_op (op_fdivK 3 ⟨by decide, by decide⟩) (pv 7) pe_int) pe_int) pe_int) pa_nil))) (pg_sub (pv 1) (pv 6) set_list))))
  (pss_cons (ps_expr (pe_meth (pv 0) T.cl_Field T.m_Field_sink G_Field_sink hr T.b_Field_sink .nil passL (pa_cons (pv 6) (pa_cons (pe_ix ix_list (pv 1) (pv 6) (fun _ _ => rfl)) pa_nil))))
  (pss_one (ps_ret (pe_call G_l_within hr rfl T.g_l_within T.F_l_within.kp T.b_l_within .nil pass0 (pa_cons (pv 0) (pa_cons (pe_op op_mul pe_int (pe_call G_l_levels hr rfl T.g_l_levels T.F_l_levels.kp T.b_l_levels .nil pass0 (pa_cons (pv 8) pa_nil))) pa_nil)))))))))))), ?_⟩
    have G := k8.F.1
    have R := k8.R
    have hlen := G.len
    have hn1 := R.n1
    have hn2 := R.n2
    have eX := k8.F.same _ _ k8.x
    have eh : (hs.map hV).length = hs.length := List.length_map _
    refine ⟨_, rfl, X, _, rfl, .inl (SqL.of eX), _, rfl, by omega, by rw [eh]; omega, fun D hD => lc_range (lo := 0) (n := _) (fun m H' => Same H H' ∧ H' D = some (.lst (natV (lyI hs m))) ∧ (lyI hs m).length ≤ m) ⟨same_new hD, upd_same, Nat.le_refl _⟩ ?_ ?_⟩
    · rintro m H1 hm ⟨s1, eD, lm⟩
      rw [Int.zero_add]
      rw [Int.toNat_natCast, eh] at hm
      obtain ⟨xm, hxm⟩ : ∃ xm, hs[m]? = some xm := ⟨hs[m], List.getElem?_eq_getElem hm⟩
      have gd : hs.getD m none = xm := by rw [List.getD_eq_getElem?_getD, hxm]; rfl
      refine ⟨rfl, ?_⟩
      refine ⟨_, rfl, _, rfl, X, _, _, _, rfl, rfl, SqL.of (s1 _ _ eX), at_of (j := m) rfl (hV_at hxm), rfl, _, rfl, ?_⟩
      cases xm with
      | none =>
        have e1 := lyI_no (hs := hs) (m := m) (by rw [gd]; intro z; cases z)
        exact iteF ⟨s1, by rw [e1]; exact eD, by rw [e1]; omega⟩
      | some j =>
        have e1 := lyI_yes (hs := hs) (m := m) (by rw [gd]; rfl)
        refine iteT ⟨_, rfl, _, eD, Evl.sz_lt (by rw [natV_len]; omega), fun b o e => ?_, ?_, ?_⟩
        · rw [upd_ne (ne_of_none e hD)]
          exact s1 _ _ e
        · rw [upd_same, e1]
          unfold natV
          rw [List.map_append, List.map_append]
          rfl
        · rw [e1, List.length_append]
          exact Nat.succ_le_succ lm
    rintro H1 ⟨s1, eD, _⟩
    rw [Int.toNat_natCast, eh] at eD
    have eD : H1 D = some (.lst (natV (lyI hs hs.length))) := eD
    have hlm : (natV (lyI hs hs.length)).length ≤ hs.length := by
      rw [natV_len]
      have := List.length_filter_le (fun k => (hs.getD k none).isSome) (List.range hs.length)
      rw [List.length_range] at this
      exact this
    have F1 := k8.F.later s1
    -- none lies
    refine ⟨_, rfl, Nat.zero_le _, fun e0 he0 => ⟨_, _, Dp.ints (same_new he0 _ _ eD), Dp.none upd_same, ints_shaped _, rfl, ?_⟩⟩
    rw [eqv_ints_nil]
    have s2 : Same H1 (upd H1 e0 (.lst [])) := same_new he0
    have eD2 := s2 _ _ eD
    have F2 := F1.later s2
    generalize upd H1 e0 (.lst []) = H2 at s2 eD2 F2 ⊢
    clear eD F1 s1 s2
    refine ⟨_, rfl, t_2 (fun c => ?_) (fun c => ?_)⟩
    · exact k H0 H2 S ws hs ⟨F2, R, k8.w, k8.x, k8.ne⟩ Frame.refl rfl (Nat.le_refl _) (Nat.le_refl _)
    -- one of them
    have hly : 0 < (lyI hs hs.length).length := by
      rcases Nat.eq_zero_or_pos (lyI hs hs.length).length with z | z
      · exact absurd (by rw [List.length_eq_zero_iff.mp z]; rfl) c
      · exact z
    have el : ((natV (lyI hs hs.length)).length : Int) = ((lyI hs hs.length).length : Int) := by rw [natV_len]
    have hpl : (0 : Int) < ((natV (lyI hs hs.length)).length : Int) := by omega
    obtain ⟨q, hq, hql⟩ : ∃ q : Nat, e % ((natV (lyI hs hs.length)).length : Int) = (q : Int) ∧ q < (lyI hs hs.length).length := by
      have h0 : 0 ≤ e % ((natV (lyI hs hs.length)).length : Int) := Int.emod_nonneg _ (by omega)
      have h1 : e % ((natV (lyI hs hs.length)).length : Int) < ((natV (lyI hs hs.length)).length : Int) := Int.emod_lt_of_pos _ hpl
      exact ⟨(e % ((natV (lyI hs hs.length)).length : Int)).toNat, by omega, by omega⟩
    obtain ⟨i, hi⟩ : ∃ i, (lyI hs hs.length)[q]? = some i := ⟨_, List.getElem?_eq_getElem hql⟩
    have him := get_mem hi
    unfold lyI at him
    rw [List.mem_filter, List.mem_range] at him
    obtain ⟨hih, hsome⟩ := him
    obtain ⟨x, hx⟩ : ∃ x, hs[i]? = some x := ⟨hs[i], List.getElem?_eq_getElem hih⟩
    rw [List.getD_eq_getElem?_getD, hx] at hsome
    obtain ⟨j, rfl⟩ := Option.isSome_iff_exists.mp hsome
    have aty : (natV (lyI hs hs.length))[q]? = some (.int (i : Int)) := by
      unfold natV
      rw [List.getElem?_map, List.getElem?_map, hi]
      rfl
    refine ⟨_, rfl, _, rfl, _, rfl, D, _, rfl, .inl (SqL.of eD2), _, _, rfl, rfl, hpl, D, _, _, _, rfl, rfl, SqL.of eD2, at_of (j := q) hq aty, ?_⟩
    refine ⟨_, rfl, _, rfl, D, _, rfl, .inl (SqL.of eD2), _, _, rfl, rfl, ⟨hpl, by omega⟩, ?_⟩
    dsimp only
    generalize e / ((natV (lyI hs hs.length)).length : Int) = v
    obtain ⟨t, d, ht, hd, hdi⟩ := R.of i j hx
    have hcs : cnt hs j = t.size := by rw [← cnt_rows hn2, R.size G ht]
    refine ⟨_, rfl, _, rfl, _, rfl, X, _, _, _, rfl, rfl, SqL.of (F2.same _ _ k8.x), at_of (j := i) rfl (hV_at hx), X, hs, j, rfl, F2.same _ _ k8.x, by omega, fun H3 s3 => ?_⟩
    rw [hcs]
    have F3 := F2.later s3
    have eW := F3.same _ _ k8.w
    have hil : i < ws.length := by omega
    obtain ⟨w0, hw0⟩ : ∃ w0, ws[i]? = some w0 := ⟨ws[i], List.getElem?_eq_getElem hil⟩
    refine ⟨fun (σ : List (Option V)) (H' : Hp) => ∃ w' : Int, σ = [some (V.ref p), some (V.ref W), some (V.ref X), some (V.int e), some (V.ref D), none, some (.int (i : Int)), some (.int v), some (.int (t.size : Int))] ∧ H' = upd H3 W (.lst ((ws.map V.int).set i (.int w'))) ∧ w' ≤ w0, ?_, ?_⟩
    · refine ⟨_, rfl, _, rfl, rfl, rfl, _, rfl, t_2 (fun c1 => ?_) (fun c1 => ?_)⟩
      · refine ⟨_, rfl, _, rfl, W, _, _, _, rfl, rfl, SqL.of eW, at_of (j := i) rfl (int_at hw0), _, rfl, _, rfl, rfl, _, rfl, rfl, _, _, rfl, rfl, ?_⟩
        refine ⟨_, rfl, _, rfl, W, _, _, i, rfl, rfl, eW, Evl.ixN_nat (by rw [List.length_map]; exact hil), ?_⟩
        refine ⟨_, rfl, rfl, ?_⟩
        omega
      · refine ⟨_, rfl, _, rfl, W, _, _, _, rfl, rfl, SqL.of eW, at_of (j := i) rfl (int_at hw0), _, rfl, _, rfl, rfl, _, rfl, rfl, _, _, rfl, rfl, _, _, rfl, ?_⟩
        refine ⟨_, rfl, _, rfl, W, _, _, i, rfl, rfl, eW, Evl.ixN_nat (by rw [List.length_map]; exact hil), ?_⟩
        refine ⟨_, rfl, rfl, ?_⟩
        split <;> omega
    rintro σ H4 ⟨w', rfl, rfl, hw'⟩
    have F4 := F3.wr (q := W) (o := .lst ((ws.map V.int).set i (.int w'))) (.inl (by rw [k8.w]; intro z; cases z))
    have w4 : (upd H0 W (.lst ((ws.map V.int).set i (.int w')))) W = some (.lst ((ws.set i w').map V.int)) := by rw [upd_same, List.map_set]
    have x4 : (upd H0 W (.lst ((ws.map V.int).set i (.int w')))) X = some (.lst (hs.map hV)) := by
      rw [upd_ne k8.ne.symm]
      exact k8.x
    have f4 : Frame [W, X] H0 (upd H0 W (.lst ((ws.map V.int).set i (.int w')))) := frameW10
    generalize upd H0 W (.lst ((ws.map V.int).set i (.int w'))) = H04 at F4 w4 x4 f4
    generalize upd H3 W (.lst ((ws.map V.int).set i (.int w'))) = H4 at F4 ⊢
    have atw : ((ws.set i w').map V.int)[i]? = some (V.int w') := int_at (List.getElem?_set_self hil)
    obtain ⟨dx, lt, ln, ob, no⟩ := F4.obj
    refine ⟨_, rfl, p, dx, _, rfl, ob, no _ (by decide +kernel) (by decide +kernel) (by decide +kernel), _, rfl, _, rfl, _, rfl, W, _, _, _, rfl, rfl, SqL.of (F4.same _ _ w4), at_of (j := i) rfl atw, H04, p, S, (i : Int), w', rfl, F4, nat_log (by omega), fun i2 j2 n l r fs ei hp hni hle H5 F5 => ?_, fun i2 j2 s d2 ei h1 h2 h3 hlt => ?_, fun hg => ?_⟩
    · have ei2 : i2 = i := by omega
      subst ei2
      have hmem : n.dat ∈ dats (plug (.nd n l r) fs) := (plug_dats fs (.nd n l r)).mem_iff.mpr (List.mem_append_left _ (by rw [dats_nd]; exact List.mem_cons_self))
      have hj2 := (R.to j2 _ hp n.dat hmem).2
      have hni2 : n.dat.i = i2 := hni
      rw [hni2, hx] at hj2
      have ej : j = j2 := Option.some.inj (Option.some.inj hj2)
      subst ej
      rw [ht] at hp
      have ept := Option.some.inj hp
      subst ept
      have hsw := sink_work w' (G.lo _ (get_mem ht))
      have hwk : (S.sink j n l r w' fs).wk = ((sunk n l r w' fs).2 : Int) := rfl
      have hR := R.sink G (w := w') ht
      rw [hni] at hR
      refine ⟨_, rfl, _, rfl, _, lg (plug (.nd n l r) fs).size, rfl, lev_lg _, _, _, rfl, rfl, .inl ⟨by decide, by decide⟩, _, p, S.sink j n l r w' fs, 3 * lg (plug (.nd n l r) fs).size, by rw [Int.natCast_mul]; rfl, F5, by rw [hwk]; omega, by rw [hwk]; omega, ?_⟩
      refine k _ _ (S.sink j n l r w' fs) (ws.set i2 w') hs ⟨F5, hR, w4, x4, k8.ne⟩ f4 ?_ (by rw [List.length_set]; exact Nat.le_refl _) (by rw [List.length_set]; exact Nat.le_refl _)
      show (S.ts.set j _).length = _
      rw [List.length_set]
    · have ei2 : i2 = i := by omega
      subst ei2
      have h4 := (R.one G hx h1 h2 h3).1
      rw [hw0] at h4
      have := Option.some.inj h4
      omega
    · obtain ⟨a, ea⟩ := R.there G hx
      exact absurd ea (hg i a rfl)
/-- one deed -/
def sp_deed10 (C D : Addr) : Sp := fun vs H Q _ => ∃ (H0 : Hp) (p W X : Addr) (S : Fs) (ws : List Int) (hs : List (Option Nat)) (c e : Int), vs = [.ref p, .ref W, .ref X, .int c, .int e] ∧ K10 C D H0 H p W X S ws hs ∧ S.ts.length = 3 ∧ ws.length + 9 < 1000 ∧
  Left10 C D H0 p W X S ws 9 fun H' => Q (.bl true) H'
theorem Left10.of {C D : Addr} {H0 : Hp} {p W X : Addr} {S : Fs} {ws : List Int} {n m : Nat} {Q : Hp → Prop} (h : Left10 C D H0 p W X S ws n Q) (c : m ≤ n) : Left10 C D H0 p W X S ws m Q := fun H0' H' S' ws' hs' k f e l1 l2 => h H0' H' S' ws' hs' k f e l1 (by omega)
theorem ok_deed10 (T : Txt K mg) : FnOk P w K mg base CX0 29 T.a_l_deed T.d_l_deed ["_law_field", "_law_weights", "_law_homes", "_law_cell", "_law_more"] (sp_deed10 T.c_Node T.c_Field) := by
  have G_l_puts : FnOk P w K mg base CX0 28 _ _ _ _ := ok_puts T
  have G_l_takes : FnOk P w K mg base CX0 28 _ _ _ _ := ok_takes T
  have G_l_pours : FnOk P w K mg base CX0 28 _ _ _ _ := ok_pours T
  have G_l_sinks : FnOk P w K mg base CX0 28 _ _ _ _ := ok_sinks T
  refine T.F_l_deed.ok sc_l_deed (fun vs H Q E h => ?_) (fun cdv A outer s H vs Q E hr h => ?_)
  · obtain ⟨H0, p, W, X, S, ws, hs, c, e, rfl, _⟩ := h
    rfl
  · obtain ⟨H0, p, W, X, S, ws, hs, c, e, rfl, k8, hm, hlen, k⟩ := h
    refine ⟨_, (pss_cons (ps_set (i := 5) sc_l_deed.nd rfl (.inl rfl) (pe_op (op_modK 3 (by decide)) (pe_op (op_fdivK 8 ⟨by decide, by decide⟩) (pv 3) pe_int) pe_int))
  (pss_cons (ps_set (i := 6) sc_l_deed.nd rfl (.inl rfl) (pe_op (op_modK 3 (by decide)) (pe_op op_add (pe_op op_add (pv 5) pe_int) (pe_op (op_modK 2 (by decide)) (pe_op (op_fdivK 24 ⟨by decide, by decide⟩) (pv 3) pe_int) pe_int)) pe_int))
  (pss_cons (ps_if (pt_cmpR op_lt (pe_op (op_modK 8 (by decide)) (pv 3) pe_int) pe_int (nomark _))
  (pss_one (ps_ret (pe_call G_l_puts hr rfl T.g_l_puts T.F_l_puts.kp T.b_l_puts .nil pass0 (pa_cons (pv 0) (pa_cons (pv 1) (pa_cons (pv 2) (pa_cons (pv 5) (pa_cons (pv 4) (pa_cons pe_int pa_nil)))))))))
  pss_nil)
  (pss_cons (ps_if (pt_cmpR op_eq (pe_op (op_modK 8 (by decide)) (pv 3) pe_int) pe_int (nomark _))
  (pss_one (ps_ret (pe_call G_l_puts hr rfl T.g_l_puts T.F_l_puts.kp T.b_l_puts .nil pass0 (pa_cons (pv 0) (pa_cons (pv 1) (pa_cons (pv 2) (pa_cons (pv 5) (pa_cons (pv 4) (pa_cons (pe_op op_add pe_int (pe_op (op_modK 9 (by decide)) (pe_op (op_fdivK 48 ⟨by decide, by decide⟩) (pv 3) pe_int) pe_int)) pa_nil)))))))))
  pss_nil)
  (pss_cons (ps_if (pt_cmpR op_eq (pe_op (op_modK 8 (by decide)) (pv 3) pe_int) pe_int (nomark _))
  (pss_one (ps_ret (pe_call G_l_takes hr rfl T.g_l_takes T.F_l_takes.kp T.b_l_takes .nil pass0 (pa_cons (pv 0) (pa_cons (pv 2) (pa_cons (pv 5) (pa_cons (pe_op op_add pe_int (pe_op (op_modK 6 (by decide)) (pv 4) pe_int)) pa_nil)))))))
  pss_nil)
  (pss_cons (ps_if (pt_cmpR op_eq (pe_op (op_modK 8 (by decide)) (pv 3) pe_int) pe_int (nomark _))
  (pss_one (ps_ret (pe_call G_l_pours hr rfl T.g_l_pours T.F_l_pours.kp T.b_l_pours .nil pass0 (pa_cons (pv 0) (pa_cons (pv 2) (pa_cons (pv 5) (pa_cons (pv 6) pa_nil)))))))
  pss_nil)
  (pss_one (ps_ret (pe_call G_l_sinks hr rfl T.g_l_sinks T.F_l_sinks.kp T.b_l_sinks .nil pass0 (pa_cons (pv 0) (pa_cons (pv 1) (pa_cons (pv 2) (pa_cons (pv 4) pa_nil))))))))))))), ?_⟩
    obtain ⟨j, hj, hjm⟩ : ∃ j : Nat, c / 8 % 3 = (j : Int) ∧ j < 3 := ⟨(c / 8 % 3).toNat, by omega, by omega⟩
    obtain ⟨o, ho, hom, hne⟩ : ∃ o : Nat, ((j : Int) + 1 + c / 24 % 2) % 3 = (o : Int) ∧ o < 3 ∧ j ≠ o := ⟨(((j : Int) + 1 + c / 24 % 2) % 3).toNat, by omega, by omega, by omega⟩
    refine ⟨_, rfl, _, rfl, rfl, _, rfl, rfl, ?_⟩
    dsimp only
    rw [hj]
    refine ⟨_, rfl, _, _, rfl, rfl, _, rfl, _, rfl, rfl, _, rfl, rfl, _, _, rfl, rfl, _, rfl, rfl, ?_⟩
    dsimp only
    rw [ho]
    have hjl : j < S.ts.length := by omega
    -- one put
    refine ⟨_, rfl, _, rfl, rfl, _, _, rfl, rfl, _, rfl, t_2 (fun c1 => ?_) (fun c1 => ?_)⟩
    · exact ⟨_, rfl, _, rfl, _, rfl, _, rfl, _, rfl, H0, p, W, X, S, ws, hs, j, 1, e, rfl, k8, hjl, by omega, by decide, by omega, k.of (by decide)⟩
    -- some put
    refine ⟨_, rfl, _, rfl, rfl, rfl, _, rfl, t_2 (fun c2 => ?_) (fun c2 => ?_)⟩
    · refine ⟨_, rfl, _, rfl, _, rfl, _, rfl, _, rfl, _, rfl, _, rfl, rfl, _, rfl, rfl, _, _, rfl, rfl, H0, p, W, X, S, ws, hs, j, (1 + c / 48 % 9).toNat, e, ?_, k8, hjl, by omega, by omega, by omega, k.of (by omega)⟩
      rw [Int.toNat_of_nonneg (by omega)]
      rfl
    -- some taken
    refine ⟨_, rfl, _, rfl, rfl, rfl, _, rfl, t_2 (fun c3 => ?_) (fun c3 => ?_)⟩
    · refine ⟨_, rfl, _, rfl, _, rfl, _, rfl, _, rfl, rfl, _, _, rfl, rfl, H0, p, W, X, S, ws, hs, j, (1 + e % 6).toNat, ?_, k8, hjl, by omega, by omega, k.of (by omega)⟩
      rw [Int.toNat_of_nonneg (by omega)]
      rfl
    -- poured
    refine ⟨_, rfl, _, rfl, rfl, rfl, _, rfl, t_2 (fun c4 => ?_) (fun c4 => ?_)⟩
    · exact ⟨_, rfl, _, rfl, _, rfl, _, rfl, H0, p, W, X, S, ws, hs, j, o, rfl, k8, hjl, by omega, by omega, by omega, hne, k.of (by omega)⟩
    -- sunk
    exact ⟨_, rfl, _, rfl, _, rfl, _, rfl, H0, p, W, X, S, ws, hs, e, rfl, k8, k.of (by omega)⟩
def Emp (i : Nat) : Fs := ⟨List.replicate i .nil, [], 0⟩
theorem emp_next (i : Nat) : (⟨(Emp i).ts ++ [Tre.nil], (Emp i).ns, (Emp i).wk⟩ : Fs) = Emp (i + 1) := by
  unfold Emp
  rw [List.replicate_succ']
theorem emp_rows : ∀ m, Rows (Emp m) [] []
  | 0 => Rows.start
  | m + 1 => by
    have := (emp_rows m).heap
    rw [emp_next m] at this
    exact this
theorem emp_len (i : Nat) : (Emp i).ts.length = i := List.length_replicate
def sp_law (K : PySem.W.Frag) : Sp := fun vs H Q _ => ∃ (a : Addr) (ns : List Int), vs = [.ref a] ∧ SqL K H a (ns.map V.int) ∧ ns.length ≤ 63 ∧ (∀ z ∈ ns, Builtin.Int.intBits z ≤ 1048576) ∧ ∀ H', Q (.bl true) H'
theorem ok_law (T : Txt K mg) : FnOk P w K mg base CX0 30 T.a_law T.d_law ["_law_script"] (sp_law K) := by
  have G_l_good : FnOk P w K mg base CX0 29 _ _ _ _ := (ok_good T).mono (by decide)
  have G_l_deed : FnOk P w K mg base CX0 29 _ _ _ _ := ok_deed10 T
  have G_Field_init : FnOk P w K mg base CX0 28 _ _ _ _ := (ok_Field_init T).mono (by decide)
  have G_Field_heap : FnOk P w K mg base CX0 29 _ _ _ _ := (ok_Field_heap T).mono (by decide)
  have G_Field_work : FnOk P w K mg base CX0 29 _ _ _ _ := (ok_work T).mono (by decide)
  refine T.F_law.ok sc_law (fun vs H Q E h => ?_) (fun cdv A outer s H vs Q E hr h => ?_)
  · obtain ⟨a, ns, rfl, _⟩ := h
    rfl
  · obtain ⟨a, ns, rfl, hS, hlen, hb, k⟩ := h
    refine ⟨_, (pss_cons (ps_set (i := 1) sc_law.nd rfl (.inr rfl) (pe_make0 T.mk_Field G_Field_init hr rfl T.gC_Field T.b_Field_init .nil pass0))
  (pss_cons (ps_set (i := 2) sc_law.nd rfl (.inl rfl) (pe_lst pa_nil))
  (pss_cons (ps_set (i := 3) sc_law.nd rfl (.inl rfl) (pe_lst pa_nil))
  (pss_cons (ps_if (PW.pt (pw_or (pt_cmpR (op_neD hr.units) (pe_lc (own := [("_law_k", 4)]) (by rfl) sc_law.nd (pi_range1 (by rfl) T.z_range (pa_cons pe_int pa_nil)) (blkOk_by (N := N_law) (sc := defScope s_law) (by decide +kernel)) (fun _ _ _ _ _ => (pg_name (i := 4) sc_law.nd rfl (.inl rfl))) (fun _ _ _ _ _ => pts_nil) (fun _ _ _ _ _ => (pe_meth0 (pv 1) T.cl_Field T.m_Field_heap G_Field_heap hr T.b_Field_heap .nil pass0))) (pe_lst (pa_cons pe_int (pa_cons pe_int (pa_cons pe_int pa_nil)))) (nomark _)) (pw_or1 (pt_cmpR op_ne (pe_meth0 (pv 1) T.cl_Field T.m_Field_work G_Field_work hr T.b_Field_work .nil pass0) pe_int (nomark _)))))
  (pss_one (ps_ret pe_bl))
  pss_nil)
  (pss_cons (ps_for PassesOwn.never rfl (pi_range1 (by rfl) T.z_range (pa_cons (pe_callB (call_min2 rfl) (by rfl) T.z_min (by decide +kernel) (pa_cons pe_int (pa_cons (pe_op (op_fdivK 2 ⟨by decide, by decide⟩) (pe_callB call_len_seq (by rfl) T.z_len PySem.boot_len (pa_cons (pv 0) pa_nil)) pe_int) pa_nil))) pa_nil)) (pg_name (i := 4) sc_law.nd rfl (.inl rfl))
  (pss_cons (ps_set (i := 5) sc_law.nd rfl (.inl rfl) (pe_ix ix_list (pv 0) (pe_op op_mul pe_int (pv 4)) (fun _ _ => rfl)))
  (pss_cons (ps_if (pt_not (pt_val (pe_call G_l_deed hr rfl T.g_l_deed T.F_l_deed.kp T.b_l_deed .nil pass0 (pa_cons (pv 1) (pa_cons (pv 2) (pa_cons (pv 3) (pa_cons (pv 5) (pa_cons (pe_ix ix_list (pv 0) (pe_op op_add (pe_op op_mul pe_int (pv 4)) pe_int) (fun _ _ => rfl)) pa_nil))))))))
  (pss_one (ps_ret pe_bl))
  pss_nil)
  (pss_one (ps_if (PW.pt (pw_and (pt_cmpR op_eq (pe_op (op_modK 3 (by decide)) (pv 4) pe_int) pe_int (nomark _)) (pw_and1 (pt_not (pt_val (pe_call G_l_good hr rfl T.g_l_good T.F_l_good.kp T.b_l_good .nil pass0 (pa_cons (pv 1) (pa_cons (pv 2) (pa_cons (pv 3) (pa_cons (pe_op (op_modK 3 (by decide)) (pe_op (op_fdivK 8 ⟨by decide, by decide⟩) (pv 5) pe_int) pe_int) pa_nil))))))))))
  (pss_one (ps_ret pe_bl))
  pss_nil)))))
  (pss_cons (ps_for PassesOwn.never rfl (pi_range1 (by rfl) T.z_range (pa_cons pe_int pa_nil)) (pg_name (i := 6) sc_law.nd rfl (.inl rfl))
  (pss_one (ps_if (pt_not (pt_val (pe_call G_l_good hr rfl T.g_l_good T.F_l_good.kp T.b_l_good .nil pass0 (pa_cons (pv 1) (pa_cons (pv 2) (pa_cons (pv 3) (pa_cons (pv 6) pa_nil)))))))
  (pss_one (ps_ret pe_bl))
  pss_nil)))
  (pss_one (ps_ret pe_bl)))))))), ?_⟩
    intro p d hp hd hn
    refine ⟨H, p, d, rfl, upd_same, fun b o e => by rw [upd_ne (ne_of_none e hp), upd_ne (ne_of_none e hd)]; exact e, hp, fun H1 F1 => ⟨rfl, ?_⟩⟩
    refine ⟨Nat.zero_le _, fun W hW => ⟨Nat.zero_le _, fun X hX => ?_⟩⟩
    have F2 := F1.wr (q := W) (o := .lst []) (.inr hW)
    have F3 := F2.wr (q := X) (o := .lst []) (.inr hX)
    have nW := F1.same.free hW
    have nX := F2.same.free hX
    have nX0 : H X = none := Same.free (same_new (o := .lst []) nW) nX
    have ne : W ≠ X := ne_of_none (H := upd H W (.lst [])) upd_same nX
    have w3 : (upd (upd H W (.lst [])) X (.lst [])) W = some (.lst []) := same_new nX _ _ upd_same
    have x3 : (upd (upd H W (.lst [])) X (.lst [])) X = some (.lst []) := upd_same
    have s3 : Same H (upd (upd H W (.lst [])) X (.lst [])) := fun b o e => same_new nX _ _ (same_new nW _ _ e)
    have keepF : ∀ {A B : Hp}, Same H A → Frame [W, X] A B → Same H B := fun sA f b o e => f b o (sA b o e) fun z => by
      rcases List.mem_cons.mp z with q | q
      · rw [q, nW] at e
        cases e
      · rw [List.mem_singleton.mp q, nX0] at e
        cases e
    generalize upd (upd H W (.lst [])) X (.lst []) = H03 at F3 w3 x3 s3
    generalize upd (upd H1 W (.lst [])) X (.lst []) = H3 at F3 ⊢
    -- three heaps
    refine ⟨(3 : Int), rfl, by decide, by decide, fun D hD => lc_range (lo := 0) (n := _) (fun m H' => Fd T.c_Node T.c_Field (upd H03 D (.lst ((rgI m).map V.int))) H' p (Emp m)) (F3.wr (q := D) (o := .lst []) (.inr hD)) ?_ ?_⟩
    · rintro m H4 hm F4
      have hm3 : m < 3 := hm
      rw [Int.zero_add]
      refine ⟨rfl, ?_⟩
      obtain ⟨dx, lt, ln, ob, no⟩ := F4.obj
      refine ⟨_, rfl, p, dx, _, rfl, ob, no _ (by decide +kernel) (by decide +kernel) (by decide +kernel), _, p, Emp m, rfl, F4, by rw [emp_len]; omega, fun H5 F5 => ?_⟩
      rw [emp_len]
      have F6 := F5.wr (q := D) (o := .lst ((rgI m).map V.int ++ [.int (m : Int)])) (.inl (by rw [upd_same]; intro z; cases z))
      rw [upd_upd, emp_next] at F6
      refine ⟨_, F5.same _ _ upd_same, Evl.sz_lt (by rw [List.length_map]; unfold rgI; rw [List.length_map, List.length_range]; omega), ?_⟩
      have e1 : rgI (m + 1) = rgI m ++ [(m : Int)] := by
        unfold rgI
        rw [List.range_succ, List.map_append]
        rfl
      rw [e1, List.map_append]
      exact F6
    intro H4 F4
    have F4 : Fd T.c_Node T.c_Field (upd H03 D (.lst (([0, 1, 2] : List Int).map V.int))) H4 p (Emp 3) := F4
    have sD : Same H03 (upd H03 D (.lst (([0, 1, 2] : List Int).map V.int))) := same_new (F3.same.free hD)
    have eD : (upd H03 D (.lst (([0, 1, 2] : List Int).map V.int))) D = some (.lst (([0, 1, 2] : List Int).map V.int)) := upd_same
    have w4 := sD _ _ w3
    have x4 := sD _ _ x3
    have s4 : Same H (upd H03 D (.lst (([0, 1, 2] : List Int).map V.int))) := fun b o e => sD _ _ (s3 _ _ e)
    generalize upd H03 D (.lst (([0, 1, 2] : List Int).map V.int)) = H04 at F4 sD eD w4 x4 s4
    refine ⟨by show 3 ≤ sizeLine; decide, fun L hL => ⟨_, _, Dp.ints (js := [0, 1, 2]) (same_new hL _ _ (F4.same _ _ eD)), Dp.ints (js := [0, 1, 2]) upd_same, ints_shaped _, ints_shaped _, ?_⟩⟩
    rw [eqv_ints]
    refine ⟨_, rfl, iteF ?_⟩
    have F5 := F4.later (same_new (o := .lst [V.int 0, V.int 1, V.int 2]) hL)
    generalize upd H4 L (.lst [V.int 0, V.int 1, V.int 2]) = H5 at F5 ⊢
    obtain ⟨dx, lt, ln, ob, no⟩ := F5.obj
    refine ⟨_, rfl, p, dx, _, rfl, ob, no _ (by decide +kernel) (by decide +kernel) (by decide +kernel), H04, p, Emp 3, rfl, F5, rfl, _, rfl, n_yes rfl ?_⟩
    have k0 : K10 T.c_Node T.c_Field H04 H5 p W X (Emp 3) [] [] := ⟨F5, emp_rows 3, w4, x4, ne⟩
    -- the deeds
    have hS4 : SqL K H5 a (ns.map V.int) := sql_same hS fun b o e => F5.same _ _ (s4 _ _ e)
    have ens : ((ns.map V.int).length : Int) = (ns.length : Int) := by rw [List.length_map]
    obtain ⟨N, hN, hN31⟩ : ∃ N : Nat, (if ((ns.map V.int).length : Int) / 2 < 33 then ((ns.map V.int).length : Int) / 2 else 33) = (N : Int) ∧ 2 * N ≤ ns.length := by
      rw [ens]
      split
      · exact ⟨((ns.length : Int) / 2).toNat, by omega, by omega⟩
      · omega
    refine ⟨_, rfl, a, _, rfl, .inl hS4, _, rfl, rfl, _, _, rfl, (N : Int), congrArg (fun z => [V.int z]) hN, by omega, by omega, for_range (lo := 0) (n := _) (fun i σ H' => ∃ (H0 : Hp) (S : Fs) (ws : List Int) (hs : List (Option Nat)) (v4 v5 : Option V), σ = [some (.ref a), some (.ref p), some (.ref W), some (.ref X), v4, v5, none] ∧
      Same H H0 ∧ K10 T.c_Node T.c_Field H0 H' p W X S ws hs ∧ S.ts.length = 3 ∧ ws.length ≤ 9 * i) ⟨H04, Emp 3, [], [], none, none, rfl, s4, k0, rfl, Nat.zero_le _⟩ ?_ ?_⟩
    · rintro i σ H4 hi ⟨H0, S, ws, hs, v4, v5, rfl, s0, k8, hm, hwl⟩
      rw [Int.toNat_natCast] at hi
      rw [Int.zero_add]
      have hS5 : SqL K H4 a (ns.map V.int) := sql_same hS fun b o e => k8.F.same _ _ (s0 _ _ e)
      obtain ⟨c, hc⟩ : ∃ c, ns[2 * i]? = some c := ⟨ns[2 * i]'(by omega), List.getElem?_eq_getElem (by omega)⟩
      obtain ⟨e, he⟩ : ∃ e, ns[2 * i + 1]? = some e := ⟨ns[2 * i + 1]'(by omega), List.getElem?_eq_getElem (by omega)⟩
      have i2 : (2 * (i : Int)) = ((2 * i : Nat) : Int) := by omega
      have i3 : (2 * (i : Int) + 1) = ((2 * i + 1 : Nat) : Int) := by omega
      refine ⟨_, rfl, _, rfl, _, _, rfl, rfl, .inl ⟨by decide, by decide⟩, a, _, _, _, rfl, rfl, hS5, at_of (j := 2 * i) i2 (int_at hc), ?_⟩
      -- the deed
      refine ⟨_, rfl, _, rfl, _, rfl, _, rfl, _, rfl, _, rfl, _, _, rfl, rfl, .inl ⟨by decide, by decide⟩, _, _, rfl, rfl, a, _, _, _, rfl, rfl, hS5, at_of (j := 2 * i + 1) i3 (int_at he), H0, p, W, X, S, ws, hs, c, e, rfl, k8, hm, by omega, fun H0' H6 S' ws' hs' k9 f9 e9 l1 l2 => ⟨true, rfl, iteF ?_⟩⟩
      have s9 : Same H H0' := keepF s0 f9
      rw [hm] at e9
      -- each third time
      obtain ⟨j, hj, hjm⟩ : ∃ j : Nat, c / 8 % 3 = (j : Int) ∧ j < 3 := ⟨(c / 8 % 3).toNat, by omega, by omega⟩
      refine ⟨_, rfl, _, rfl, rfl, rfl, _, rfl, t_2 (fun c1 => ?_) (fun c1 => ?_)⟩
      · refine ⟨_, rfl, _, rfl, _, rfl, _, rfl, _, rfl, rfl, _, rfl, rfl, H0', p, W, X, S', ws', hs', j, (by rw [← hj]; rfl), k9, by omega, by omega, fun H7 F7 => ⟨true, rfl, iteF ?_⟩⟩
        exact ⟨H0', S', ws', hs', _, _, rfl, s9, ⟨F7, k9.R, k9.w, k9.x, k9.ne⟩, e9, by omega⟩
      · exact ⟨H0', S', ws', hs', _, _, rfl, s9, k9, e9, by omega⟩
    clear k0 hS4
    rintro σ H4 ⟨H0, S, ws, hs, v4, v5, rfl, s0, k8, hm, hwl⟩
    -- all heaps
    refine ⟨(3 : Int), rfl, by decide, by decide, for_range (lo := 0) (n := _) (fun i σ H' => ∃ v6 : Option V, σ = [some (.ref a), some (.ref p), some (.ref W), some (.ref X), v4, v5, v6] ∧ K10 T.c_Node T.c_Field H0 H' p W X S ws hs) ⟨none, rfl, k8⟩ ?_ ?_⟩
    · rintro i σ H' hi ⟨v6, rfl, k9⟩
      have hi3 : i < 3 := hi
      rw [Int.zero_add]
      exact ⟨_, rfl, _, rfl, _, rfl, _, rfl, H0, p, W, X, S, ws, hs, i, rfl, k9, by omega, by omega, fun H7 F7 => ⟨true, rfl, iteF ⟨_, rfl, ⟨F7, k9.R, k9.w, k9.x, k9.ne⟩⟩⟩⟩
    · rintro σ H' ⟨v6, rfl, _⟩
      exact k _
end
theorem all_mk {l : PySem.W.OpenLaw} {w : World} {K : PySem.W.Frag} {h : Heap} {mg : Str → Option Value} {fa : Addr} (X : K.In h) (G : h.Ns mainGlobals mg) (hfa : mg "law" = some (.ref fa))
    {c_Node : Addr}
    {c_Field : Addr}
    {e_HeapError : Addr}
    {e_NoHeap : Addr}
    {e_NoThing : Addr}
    {e_Bare : Addr}
    {e_Same : Addr}
    {e_Heavier : Addr}
    {f_Node_init : Addr} {od_Node_init an_Node_init : Option Addr} {sl_Node_init : Array (Option Value)} {oc_Node_init kV_Node_init dc_Node_init pm_Node_init cd_Node_init ct_Node_init : Value}
    {f_lesser : Addr} {od_lesser an_lesser : Option Addr} {sl_lesser : Array (Option Value)} {oc_lesser kV_lesser dc_lesser pm_lesser cd_lesser ct_lesser : Value}
    {f_run_of : Addr} {od_run_of an_run_of : Option Addr} {sl_run_of : Array (Option Value)} {oc_run_of kV_run_of dc_run_of pm_run_of cd_run_of ct_run_of : Value}
    {f_thing_of : Addr} {od_thing_of an_thing_of : Option Addr} {sl_thing_of : Array (Option Value)} {oc_thing_of kV_thing_of dc_thing_of pm_thing_of cd_thing_of ct_thing_of : Value}
    {f_settle : Addr} {od_settle an_settle : Option Addr} {sl_settle : Array (Option Value)} {oc_settle kV_settle dc_settle pm_settle cd_settle ct_settle : Value}
    {f_meet : Addr} {od_meet an_meet : Option Addr} {sl_meet : Array (Option Value)} {oc_meet kV_meet dc_meet pm_meet cd_meet ct_meet : Value}
    {f_joined : Addr} {od_joined an_joined : Option Addr} {sl_joined : Array (Option Value)} {oc_joined kV_joined dc_joined pm_joined cd_joined ct_joined : Value}
    {f_cut_out : Addr} {od_cut_out an_cut_out : Option Addr} {sl_cut_out : Array (Option Value)} {oc_cut_out kV_cut_out dc_cut_out pm_cut_out cd_cut_out ct_cut_out : Value}
    {f_in_order : Addr} {od_in_order an_in_order : Option Addr} {sl_in_order : Array (Option Value)} {oc_in_order kV_in_order dc_in_order pm_in_order cd_in_order ct_in_order : Value}
    {f_Field_init : Addr} {od_Field_init an_Field_init : Option Addr} {sl_Field_init : Array (Option Value)} {oc_Field_init kV_Field_init dc_Field_init pm_Field_init cd_Field_init ct_Field_init : Value}
    {f_Field_heap : Addr} {od_Field_heap an_Field_heap : Option Addr} {sl_Field_heap : Array (Option Value)} {oc_Field_heap kV_Field_heap dc_Field_heap pm_Field_heap cd_Field_heap ct_Field_heap : Value}
    {f_Field_put : Addr} {od_Field_put an_Field_put : Option Addr} {sl_Field_put : Array (Option Value)} {oc_Field_put kV_Field_put dc_Field_put pm_Field_put cd_Field_put ct_Field_put : Value}
    {f_Field_least : Addr} {od_Field_least an_Field_least : Option Addr} {sl_Field_least : Array (Option Value)} {oc_Field_least kV_Field_least dc_Field_least pm_Field_least cd_Field_least ct_Field_least : Value}
    {f_Field_take : Addr} {od_Field_take an_Field_take : Option Addr} {sl_Field_take : Array (Option Value)} {oc_Field_take kV_Field_take dc_Field_take pm_Field_take cd_Field_take ct_Field_take : Value}
    {f_Field_pour : Addr} {od_Field_pour an_Field_pour : Option Addr} {sl_Field_pour : Array (Option Value)} {oc_Field_pour kV_Field_pour dc_Field_pour pm_Field_pour cd_Field_pour ct_Field_pour : Value}
    {f_Field_sink : Addr} {od_Field_sink an_Field_sink : Option Addr} {sl_Field_sink : Array (Option Value)} {oc_Field_sink kV_Field_sink dc_Field_sink pm_Field_sink cd_Field_sink ct_Field_sink : Value}
    {f_Field_things : Addr} {od_Field_things an_Field_things : Option Addr} {sl_Field_things : Array (Option Value)} {oc_Field_things kV_Field_things dc_Field_things pm_Field_things cd_Field_things ct_Field_things : Value}
    {f_Field_tree : Addr} {od_Field_tree an_Field_tree : Option Addr} {sl_Field_tree : Array (Option Value)} {oc_Field_tree kV_Field_tree dc_Field_tree pm_Field_tree cd_Field_tree ct_Field_tree : Value}
    {f_Field_work : Addr} {od_Field_work an_Field_work : Option Addr} {sl_Field_work : Array (Option Value)} {oc_Field_work kV_Field_work dc_Field_work pm_Field_work cd_Field_work ct_Field_work : Value}
    {f_Field_plant : Addr} {od_Field_plant an_Field_plant : Option Addr} {sl_Field_plant : Array (Option Value)} {oc_Field_plant kV_Field_plant dc_Field_plant pm_Field_plant cd_Field_plant ct_Field_plant : Value}
    {f_Field_check_heap : Addr} {od_Field_check_heap an_Field_check_heap : Option Addr} {sl_Field_check_heap : Array (Option Value)} {oc_Field_check_heap kV_Field_check_heap dc_Field_check_heap pm_Field_check_heap cd_Field_check_heap ct_Field_check_heap : Value}
    {f_Field_top : Addr} {od_Field_top an_Field_top : Option Addr} {sl_Field_top : Array (Option Value)} {oc_Field_top kV_Field_top dc_Field_top pm_Field_top cd_Field_top ct_Field_top : Value}
    {f_Field_node : Addr} {od_Field_node an_Field_node : Option Addr} {sl_Field_node : Array (Option Value)} {oc_Field_node kV_Field_node dc_Field_node pm_Field_node cd_Field_node ct_Field_node : Value}
    {f_l_whole : Addr} {od_l_whole an_l_whole : Option Addr} {sl_l_whole : Array (Option Value)} {oc_l_whole kV_l_whole dc_l_whole pm_l_whole cd_l_whole ct_l_whole : Value}
    {f_l_weight : Addr} {od_l_weight an_l_weight : Option Addr} {sl_l_weight : Array (Option Value)} {oc_l_weight kV_l_weight dc_l_weight pm_l_weight cd_l_weight ct_l_weight : Value}
    {f_l_levels : Addr} {od_l_levels an_l_levels : Option Addr} {sl_l_levels : Array (Option Value)} {oc_l_levels kV_l_levels dc_l_levels pm_l_levels cd_l_levels ct_l_levels : Value}
    {f_l_row : Addr} {od_l_row an_l_row : Option Addr} {sl_l_row : Array (Option Value)} {oc_l_row kV_l_row dc_l_row pm_l_row cd_l_row ct_l_row : Value}
    {f_l_walked : Addr} {od_l_walked an_l_walked : Option Addr} {sl_l_walked : Array (Option Value)} {oc_l_walked kV_l_walked dc_l_walked pm_l_walked cd_l_walked ct_l_walked : Value}
    {f_l_runs : Addr} {od_l_runs an_l_runs : Option Addr} {sl_l_runs : Array (Option Value)} {oc_l_runs kV_l_runs dc_l_runs pm_l_runs cd_l_runs ct_l_runs : Value}
    {f_l_good : Addr} {od_l_good an_l_good : Option Addr} {sl_l_good : Array (Option Value)} {oc_l_good kV_l_good dc_l_good pm_l_good cd_l_good ct_l_good : Value}
    {f_l_within : Addr} {od_l_within an_l_within : Option Addr} {sl_l_within : Array (Option Value)} {oc_l_within kV_l_within dc_l_within pm_l_within cd_l_within ct_l_within : Value}
    {f_l_size : Addr} {od_l_size an_l_size : Option Addr} {sl_l_size : Array (Option Value)} {oc_l_size kV_l_size dc_l_size pm_l_size cd_l_size ct_l_size : Value}
    {f_l_puts : Addr} {od_l_puts an_l_puts : Option Addr} {sl_l_puts : Array (Option Value)} {oc_l_puts kV_l_puts dc_l_puts pm_l_puts cd_l_puts ct_l_puts : Value}
    {f_l_takes : Addr} {od_l_takes an_l_takes : Option Addr} {sl_l_takes : Array (Option Value)} {oc_l_takes kV_l_takes dc_l_takes pm_l_takes cd_l_takes ct_l_takes : Value}
    {f_l_pours : Addr} {od_l_pours an_l_pours : Option Addr} {sl_l_pours : Array (Option Value)} {oc_l_pours kV_l_pours dc_l_pours pm_l_pours cd_l_pours ct_l_pours : Value}
    {f_l_sinks : Addr} {od_l_sinks an_l_sinks : Option Addr} {sl_l_sinks : Array (Option Value)} {oc_l_sinks kV_l_sinks dc_l_sinks pm_l_sinks cd_l_sinks ct_l_sinks : Value}
    {f_l_deed : Addr} {od_l_deed an_l_deed : Option Addr} {sl_l_deed : Array (Option Value)} {oc_l_deed kV_l_deed dc_l_deed pm_l_deed cd_l_deed ct_l_deed : Value}
    {f_law : Addr} {od_law an_law : Option Addr} {sl_law : Array (Option Value)} {oc_law kV_law dc_law pm_law cd_law ct_law : Value}
    (q_Node : PySem.W.nsIn K mainGlobals "Node" = some (some (.ref c_Node)))
    (pg_Node : PySem.W.plainGet K c_Node Str.empty = true)
    (hd_Node : PySem.W.hasDictIn K c_Node = true)
    (po_Node : PySem.W.plainOver K c_Node = true)
    (sa_Node : PySem.W.findIn K (.ref c_Node) "__setattr__" = some (some (.builtin "object.__setattr__")))
    (n_Node_thing : PySem.W.findIn K (.ref c_Node) "thing" = some none)
    (n_Node_weight : PySem.W.findIn K (.ref c_Node) "weight" = some none)
    (n_Node_home : PySem.W.findIn K (.ref c_Node) "home" = some none)
    (n_Node_above : PySem.W.findIn K (.ref c_Node) "above" = some none)
    (n_Node_left : PySem.W.findIn K (.ref c_Node) "left" = some none)
    (n_Node_right : PySem.W.findIn K (.ref c_Node) "right" = some none)
    (n_Node_run : PySem.W.findIn K (.ref c_Node) "run" = some none)
    (ob_Node : PySem.W.mroIn K c_Node (.type "object") = some true)
    (eq_Node : PySem.W.findIn K (.ref c_Node) "__eq__" = some (some (.builtin "object.__eq__")))
    (no_Node : PySem.W.subIn K (.ref c_Node) (.type "NoneType") = some false)
    (q_Field : PySem.W.nsIn K mainGlobals "Field" = some (some (.ref c_Field)))
    (pg_Field : PySem.W.plainGet K c_Field Str.empty = true)
    (hd_Field : PySem.W.hasDictIn K c_Field = true)
    (po_Field : PySem.W.plainOver K c_Field = true)
    (sa_Field : PySem.W.findIn K (.ref c_Field) "__setattr__" = some (some (.builtin "object.__setattr__")))
    (n_Field_tops : PySem.W.findIn K (.ref c_Field) "_tops" = some none)
    (n_Field_nodes : PySem.W.findIn K (.ref c_Field) "_nodes" = some none)
    (n_Field_work : PySem.W.findIn K (.ref c_Field) "_work" = some none)
    (q_HeapError : PySem.W.nsIn K mainGlobals "HeapError" = some (some (.ref e_HeapError)))
    (x_HeapError : PySem.W.excIn K e_HeapError [.type "ValueError", .type "Exception", .type "BaseException", .type "object"] "ValueError.__new__" = true)
    (k_HeapError : PySem.W.keepIn K (.ref e_HeapError) = true)
    (b_HeapError : PySem.W.subIn K (.ref e_HeapError) (.type "BaseException") = some true)
    (t_HeapError : PySem.W.typeIn K (.ref e_HeapError) = some (.type "type"))
    (q_NoHeap : PySem.W.nsIn K mainGlobals "NoHeap" = some (some (.ref e_NoHeap)))
    (x_NoHeap : PySem.W.excIn K e_NoHeap [.type "ValueError", .type "Exception", .type "BaseException", .type "object"] "ValueError.__new__" = true)
    (k_NoHeap : PySem.W.keepIn K (.ref e_NoHeap) = true)
    (b_NoHeap : PySem.W.subIn K (.ref e_NoHeap) (.type "BaseException") = some true)
    (t_NoHeap : PySem.W.typeIn K (.ref e_NoHeap) = some (.type "type"))
    (q_NoThing : PySem.W.nsIn K mainGlobals "NoThing" = some (some (.ref e_NoThing)))
    (x_NoThing : PySem.W.excIn K e_NoThing [.type "ValueError", .type "Exception", .type "BaseException", .type "object"] "ValueError.__new__" = true)
    (k_NoThing : PySem.W.keepIn K (.ref e_NoThing) = true)
    (b_NoThing : PySem.W.subIn K (.ref e_NoThing) (.type "BaseException") = some true)
    (t_NoThing : PySem.W.typeIn K (.ref e_NoThing) = some (.type "type"))
    (q_Bare : PySem.W.nsIn K mainGlobals "Bare" = some (some (.ref e_Bare)))
    (x_Bare : PySem.W.excIn K e_Bare [.type "ValueError", .type "Exception", .type "BaseException", .type "object"] "ValueError.__new__" = true)
    (k_Bare : PySem.W.keepIn K (.ref e_Bare) = true)
    (b_Bare : PySem.W.subIn K (.ref e_Bare) (.type "BaseException") = some true)
    (t_Bare : PySem.W.typeIn K (.ref e_Bare) = some (.type "type"))
    (q_Same : PySem.W.nsIn K mainGlobals "Same" = some (some (.ref e_Same)))
    (x_Same : PySem.W.excIn K e_Same [.type "ValueError", .type "Exception", .type "BaseException", .type "object"] "ValueError.__new__" = true)
    (k_Same : PySem.W.keepIn K (.ref e_Same) = true)
    (b_Same : PySem.W.subIn K (.ref e_Same) (.type "BaseException") = some true)
    (t_Same : PySem.W.typeIn K (.ref e_Same) = some (.type "type"))
    (q_Heavier : PySem.W.nsIn K mainGlobals "Heavier" = some (some (.ref e_Heavier)))
    (x_Heavier : PySem.W.excIn K e_Heavier [.type "ValueError", .type "Exception", .type "BaseException", .type "object"] "ValueError.__new__" = true)
    (k_Heavier : PySem.W.keepIn K (.ref e_Heavier) = true)
    (b_Heavier : PySem.W.subIn K (.ref e_Heavier) (.type "BaseException") = some true)
    (t_Heavier : PySem.W.typeIn K (.ref e_Heavier) = some (.type "type"))
    (a_Node_init : PySem.W.findIn K (.ref c_Node) "__init__" = some (some (.ref f_Node_init)))
    (i_Node_init : PySem.W.isFn K (.ref f_Node_init) = true)
    (l_Node_init : K.lookup f_Node_init = some ⟨oc_Node_init, od_Node_init, .func (PySem.W.fnOf "__init__" "Node.__init__" (defArgs s_Node_init) (defBody s_Node_init) (defScope s_Node_init) .none kV_Node_init dc_Node_init pm_Node_init an_Node_init cd_Node_init ct_Node_init), sl_Node_init⟩)
    (c_Node_init : PySem.W.codeIn K cd_Node_init "Node.__init__" = true)
    (k_Node_init : PySem.W.keepIn K (.ref f_Node_init) = true)
    (mk_Node : PySem.W.makesIn K c_Node = true)
    (kc_Node : PySem.W.keepIn K (.ref c_Node) = true)
    (a_lesser : PySem.W.nsIn K mainGlobals "lesser" = some (some (.ref f_lesser)))
    (l_lesser : K.lookup f_lesser = some ⟨oc_lesser, od_lesser, .func (PySem.W.fnOf "lesser" "lesser" (defArgs s_lesser) (defBody s_lesser) (defScope s_lesser) .none kV_lesser dc_lesser pm_lesser an_lesser cd_lesser ct_lesser), sl_lesser⟩)
    (c_lesser : PySem.W.codeIn K cd_lesser "lesser" = true)
    (k_lesser : PySem.W.keepIn K (.ref f_lesser) = true)
    (a_run_of : PySem.W.nsIn K mainGlobals "run_of" = some (some (.ref f_run_of)))
    (l_run_of : K.lookup f_run_of = some ⟨oc_run_of, od_run_of, .func (PySem.W.fnOf "run_of" "run_of" (defArgs s_run_of) (defBody s_run_of) (defScope s_run_of) .none kV_run_of dc_run_of pm_run_of an_run_of cd_run_of ct_run_of), sl_run_of⟩)
    (c_run_of : PySem.W.codeIn K cd_run_of "run_of" = true)
    (k_run_of : PySem.W.keepIn K (.ref f_run_of) = true)
    (a_thing_of : PySem.W.nsIn K mainGlobals "thing_of" = some (some (.ref f_thing_of)))
    (l_thing_of : K.lookup f_thing_of = some ⟨oc_thing_of, od_thing_of, .func (PySem.W.fnOf "thing_of" "thing_of" (defArgs s_thing_of) (defBody s_thing_of) (defScope s_thing_of) .none kV_thing_of dc_thing_of pm_thing_of an_thing_of cd_thing_of ct_thing_of), sl_thing_of⟩)
    (c_thing_of : PySem.W.codeIn K cd_thing_of "thing_of" = true)
    (k_thing_of : PySem.W.keepIn K (.ref f_thing_of) = true)
    (a_settle : PySem.W.nsIn K mainGlobals "settle" = some (some (.ref f_settle)))
    (l_settle : K.lookup f_settle = some ⟨oc_settle, od_settle, .func (PySem.W.fnOf "settle" "settle" (defArgs s_settle) (defBody s_settle) (defScope s_settle) .none kV_settle dc_settle pm_settle an_settle cd_settle ct_settle), sl_settle⟩)
    (c_settle : PySem.W.codeIn K cd_settle "settle" = true)
    (k_settle : PySem.W.keepIn K (.ref f_settle) = true)
    (a_meet : PySem.W.nsIn K mainGlobals "meet" = some (some (.ref f_meet)))
    (l_meet : K.lookup f_meet = some ⟨oc_meet, od_meet, .func (PySem.W.fnOf "meet" "meet" (defArgs s_meet) (defBody s_meet) (defScope s_meet) .none kV_meet dc_meet pm_meet an_meet cd_meet ct_meet), sl_meet⟩)
    (c_meet : PySem.W.codeIn K cd_meet "meet" = true)
    (k_meet : PySem.W.keepIn K (.ref f_meet) = true)
    (a_joined : PySem.W.nsIn K mainGlobals "joined" = some (some (.ref f_joined)))
    (l_joined : K.lookup f_joined = some ⟨oc_joined, od_joined, .func (PySem.W.fnOf "joined" "joined" (defArgs s_joined) (defBody s_joined) (defScope s_joined) .none kV_joined dc_joined pm_joined an_joined cd_joined ct_joined), sl_joined⟩)
    (c_joined : PySem.W.codeIn K cd_joined "joined" = true)
    (k_joined : PySem.W.keepIn K (.ref f_joined) = true)
    (a_cut_out : PySem.W.nsIn K mainGlobals "cut_out" = some (some (.ref f_cut_out)))
    (l_cut_out : K.lookup f_cut_out = some ⟨oc_cut_out, od_cut_out, .func (PySem.W.fnOf "cut_out" "cut_out" (defArgs s_cut_out) (defBody s_cut_out) (defScope s_cut_out) .none kV_cut_out dc_cut_out pm_cut_out an_cut_out cd_cut_out ct_cut_out), sl_cut_out⟩)
    (c_cut_out : PySem.W.codeIn K cd_cut_out "cut_out" = true)
    (k_cut_out : PySem.W.keepIn K (.ref f_cut_out) = true)
    (a_in_order : PySem.W.nsIn K mainGlobals "in_order" = some (some (.ref f_in_order)))
    (l_in_order : K.lookup f_in_order = some ⟨oc_in_order, od_in_order, .func (PySem.W.fnOf "in_order" "in_order" (defArgs s_in_order) (defBody s_in_order) (defScope s_in_order) .none kV_in_order dc_in_order pm_in_order an_in_order cd_in_order ct_in_order), sl_in_order⟩)
    (c_in_order : PySem.W.codeIn K cd_in_order "in_order" = true)
    (k_in_order : PySem.W.keepIn K (.ref f_in_order) = true)
    (a_Field_init : PySem.W.findIn K (.ref c_Field) "__init__" = some (some (.ref f_Field_init)))
    (i_Field_init : PySem.W.isFn K (.ref f_Field_init) = true)
    (l_Field_init : K.lookup f_Field_init = some ⟨oc_Field_init, od_Field_init, .func (PySem.W.fnOf "__init__" "Field.__init__" (defArgs s_Field_init) (defBody s_Field_init) (defScope s_Field_init) .none kV_Field_init dc_Field_init pm_Field_init an_Field_init cd_Field_init ct_Field_init), sl_Field_init⟩)
    (c_Field_init : PySem.W.codeIn K cd_Field_init "Field.__init__" = true)
    (k_Field_init : PySem.W.keepIn K (.ref f_Field_init) = true)
    (mk_Field : PySem.W.makesIn K c_Field = true)
    (kc_Field : PySem.W.keepIn K (.ref c_Field) = true)
    (a_Field_heap : PySem.W.findIn K (.ref c_Field) "heap" = some (some (.ref f_Field_heap)))
    (i_Field_heap : PySem.W.isFn K (.ref f_Field_heap) = true)
    (l_Field_heap : K.lookup f_Field_heap = some ⟨oc_Field_heap, od_Field_heap, .func (PySem.W.fnOf "heap" "Field.heap" (defArgs s_Field_heap) (defBody s_Field_heap) (defScope s_Field_heap) .none kV_Field_heap dc_Field_heap pm_Field_heap an_Field_heap cd_Field_heap ct_Field_heap), sl_Field_heap⟩)
    (c_Field_heap : PySem.W.codeIn K cd_Field_heap "Field.heap" = true)
    (k_Field_heap : PySem.W.keepIn K (.ref f_Field_heap) = true)
    (a_Field_put : PySem.W.findIn K (.ref c_Field) "put" = some (some (.ref f_Field_put)))
    (i_Field_put : PySem.W.isFn K (.ref f_Field_put) = true)
    (l_Field_put : K.lookup f_Field_put = some ⟨oc_Field_put, od_Field_put, .func (PySem.W.fnOf "put" "Field.put" (defArgs s_Field_put) (defBody s_Field_put) (defScope s_Field_put) .none kV_Field_put dc_Field_put pm_Field_put an_Field_put cd_Field_put ct_Field_put), sl_Field_put⟩)
    (c_Field_put : PySem.W.codeIn K cd_Field_put "Field.put" = true)
    (k_Field_put : PySem.W.keepIn K (.ref f_Field_put) = true)
    (a_Field_least : PySem.W.findIn K (.ref c_Field) "least" = some (some (.ref f_Field_least)))
    (i_Field_least : PySem.W.isFn K (.ref f_Field_least) = true)
    (l_Field_least : K.lookup f_Field_least = some ⟨oc_Field_least, od_Field_least, .func (PySem.W.fnOf "least" "Field.least" (defArgs s_Field_least) (defBody s_Field_least) (defScope s_Field_least) .none kV_Field_least dc_Field_least pm_Field_least an_Field_least cd_Field_least ct_Field_least), sl_Field_least⟩)
    (c_Field_least : PySem.W.codeIn K cd_Field_least "Field.least" = true)
    (k_Field_least : PySem.W.keepIn K (.ref f_Field_least) = true)
    (a_Field_take : PySem.W.findIn K (.ref c_Field) "take" = some (some (.ref f_Field_take)))
    (i_Field_take : PySem.W.isFn K (.ref f_Field_take) = true)
    (l_Field_take : K.lookup f_Field_take = some ⟨oc_Field_take, od_Field_take, .func (PySem.W.fnOf "take" "Field.take" (defArgs s_Field_take) (defBody s_Field_take) (defScope s_Field_take) .none kV_Field_take dc_Field_take pm_Field_take an_Field_take cd_Field_take ct_Field_take), sl_Field_take⟩)
    (c_Field_take : PySem.W.codeIn K cd_Field_take "Field.take" = true)
    (k_Field_take : PySem.W.keepIn K (.ref f_Field_take) = true)
    (a_Field_pour : PySem.W.findIn K (.ref c_Field) "pour" = some (some (.ref f_Field_pour)))
    (i_Field_pour : PySem.W.isFn K (.ref f_Field_pour) = true)
    (l_Field_pour : K.lookup f_Field_pour = some ⟨oc_Field_pour, od_Field_pour, .func (PySem.W.fnOf "pour" "Field.pour" (defArgs s_Field_pour) (defBody s_Field_pour) (defScope s_Field_pour) .none kV_Field_pour dc_Field_pour pm_Field_pour an_Field_pour cd_Field_pour ct_Field_pour), sl_Field_pour⟩)
    (c_Field_pour : PySem.W.codeIn K cd_Field_pour "Field.pour" = true)
    (k_Field_pour : PySem.W.keepIn K (.ref f_Field_pour) = true)
    (a_Field_sink : PySem.W.findIn K (.ref c_Field) "sink" = some (some (.ref f_Field_sink)))
    (i_Field_sink : PySem.W.isFn K (.ref f_Field_sink) = true)
    (l_Field_sink : K.lookup f_Field_sink = some ⟨oc_Field_sink, od_Field_sink, .func (PySem.W.fnOf "sink" "Field.sink" (defArgs s_Field_sink) (defBody s_Field_sink) (defScope s_Field_sink) .none kV_Field_sink dc_Field_sink pm_Field_sink an_Field_sink cd_Field_sink ct_Field_sink), sl_Field_sink⟩)
    (c_Field_sink : PySem.W.codeIn K cd_Field_sink "Field.sink" = true)
    (k_Field_sink : PySem.W.keepIn K (.ref f_Field_sink) = true)
    (a_Field_things : PySem.W.findIn K (.ref c_Field) "things" = some (some (.ref f_Field_things)))
    (i_Field_things : PySem.W.isFn K (.ref f_Field_things) = true)
    (l_Field_things : K.lookup f_Field_things = some ⟨oc_Field_things, od_Field_things, .func (PySem.W.fnOf "things" "Field.things" (defArgs s_Field_things) (defBody s_Field_things) (defScope s_Field_things) .none kV_Field_things dc_Field_things pm_Field_things an_Field_things cd_Field_things ct_Field_things), sl_Field_things⟩)
    (c_Field_things : PySem.W.codeIn K cd_Field_things "Field.things" = true)
    (k_Field_things : PySem.W.keepIn K (.ref f_Field_things) = true)
    (a_Field_tree : PySem.W.findIn K (.ref c_Field) "tree" = some (some (.ref f_Field_tree)))
    (i_Field_tree : PySem.W.isFn K (.ref f_Field_tree) = true)
    (l_Field_tree : K.lookup f_Field_tree = some ⟨oc_Field_tree, od_Field_tree, .func (PySem.W.fnOf "tree" "Field.tree" (defArgs s_Field_tree) (defBody s_Field_tree) (defScope s_Field_tree) .none kV_Field_tree dc_Field_tree pm_Field_tree an_Field_tree cd_Field_tree ct_Field_tree), sl_Field_tree⟩)
    (c_Field_tree : PySem.W.codeIn K cd_Field_tree "Field.tree" = true)
    (k_Field_tree : PySem.W.keepIn K (.ref f_Field_tree) = true)
    (a_Field_work : PySem.W.findIn K (.ref c_Field) "work" = some (some (.ref f_Field_work)))
    (i_Field_work : PySem.W.isFn K (.ref f_Field_work) = true)
    (l_Field_work : K.lookup f_Field_work = some ⟨oc_Field_work, od_Field_work, .func (PySem.W.fnOf "work" "Field.work" (defArgs s_Field_work) (defBody s_Field_work) (defScope s_Field_work) .none kV_Field_work dc_Field_work pm_Field_work an_Field_work cd_Field_work ct_Field_work), sl_Field_work⟩)
    (c_Field_work : PySem.W.codeIn K cd_Field_work "Field.work" = true)
    (k_Field_work : PySem.W.keepIn K (.ref f_Field_work) = true)
    (a_Field_plant : PySem.W.findIn K (.ref c_Field) "_plant" = some (some (.ref f_Field_plant)))
    (i_Field_plant : PySem.W.isFn K (.ref f_Field_plant) = true)
    (l_Field_plant : K.lookup f_Field_plant = some ⟨oc_Field_plant, od_Field_plant, .func (PySem.W.fnOf "_plant" "Field._plant" (defArgs s_Field_plant) (defBody s_Field_plant) (defScope s_Field_plant) .none kV_Field_plant dc_Field_plant pm_Field_plant an_Field_plant cd_Field_plant ct_Field_plant), sl_Field_plant⟩)
    (c_Field_plant : PySem.W.codeIn K cd_Field_plant "Field._plant" = true)
    (k_Field_plant : PySem.W.keepIn K (.ref f_Field_plant) = true)
    (a_Field_check_heap : PySem.W.findIn K (.ref c_Field) "_check_heap" = some (some (.ref f_Field_check_heap)))
    (i_Field_check_heap : PySem.W.isFn K (.ref f_Field_check_heap) = true)
    (l_Field_check_heap : K.lookup f_Field_check_heap = some ⟨oc_Field_check_heap, od_Field_check_heap, .func (PySem.W.fnOf "_check_heap" "Field._check_heap" (defArgs s_Field_check_heap) (defBody s_Field_check_heap) (defScope s_Field_check_heap) .none kV_Field_check_heap dc_Field_check_heap pm_Field_check_heap an_Field_check_heap cd_Field_check_heap ct_Field_check_heap), sl_Field_check_heap⟩)
    (c_Field_check_heap : PySem.W.codeIn K cd_Field_check_heap "Field._check_heap" = true)
    (k_Field_check_heap : PySem.W.keepIn K (.ref f_Field_check_heap) = true)
    (a_Field_top : PySem.W.findIn K (.ref c_Field) "_top" = some (some (.ref f_Field_top)))
    (i_Field_top : PySem.W.isFn K (.ref f_Field_top) = true)
    (l_Field_top : K.lookup f_Field_top = some ⟨oc_Field_top, od_Field_top, .func (PySem.W.fnOf "_top" "Field._top" (defArgs s_Field_top) (defBody s_Field_top) (defScope s_Field_top) .none kV_Field_top dc_Field_top pm_Field_top an_Field_top cd_Field_top ct_Field_top), sl_Field_top⟩)
    (c_Field_top : PySem.W.codeIn K cd_Field_top "Field._top" = true)
    (k_Field_top : PySem.W.keepIn K (.ref f_Field_top) = true)
    (a_Field_node : PySem.W.findIn K (.ref c_Field) "_node" = some (some (.ref f_Field_node)))
    (i_Field_node : PySem.W.isFn K (.ref f_Field_node) = true)
    (l_Field_node : K.lookup f_Field_node = some ⟨oc_Field_node, od_Field_node, .func (PySem.W.fnOf "_node" "Field._node" (defArgs s_Field_node) (defBody s_Field_node) (defScope s_Field_node) .none kV_Field_node dc_Field_node pm_Field_node an_Field_node cd_Field_node ct_Field_node), sl_Field_node⟩)
    (c_Field_node : PySem.W.codeIn K cd_Field_node "Field._node" = true)
    (k_Field_node : PySem.W.keepIn K (.ref f_Field_node) = true)
    (a_l_whole : PySem.W.nsIn K mainGlobals "_law_whole" = some (some (.ref f_l_whole)))
    (l_l_whole : K.lookup f_l_whole = some ⟨oc_l_whole, od_l_whole, .func (PySem.W.fnOf "_law_whole" "_law_whole" (defArgs s_l_whole) (defBody s_l_whole) (defScope s_l_whole) .none kV_l_whole dc_l_whole pm_l_whole an_l_whole cd_l_whole ct_l_whole), sl_l_whole⟩)
    (c_l_whole : PySem.W.codeIn K cd_l_whole "_law_whole" = true)
    (k_l_whole : PySem.W.keepIn K (.ref f_l_whole) = true)
    (a_l_weight : PySem.W.nsIn K mainGlobals "_law_weight" = some (some (.ref f_l_weight)))
    (l_l_weight : K.lookup f_l_weight = some ⟨oc_l_weight, od_l_weight, .func (PySem.W.fnOf "_law_weight" "_law_weight" (defArgs s_l_weight) (defBody s_l_weight) (defScope s_l_weight) .none kV_l_weight dc_l_weight pm_l_weight an_l_weight cd_l_weight ct_l_weight), sl_l_weight⟩)
    (c_l_weight : PySem.W.codeIn K cd_l_weight "_law_weight" = true)
    (k_l_weight : PySem.W.keepIn K (.ref f_l_weight) = true)
    (a_l_levels : PySem.W.nsIn K mainGlobals "_law_levels" = some (some (.ref f_l_levels)))
    (l_l_levels : K.lookup f_l_levels = some ⟨oc_l_levels, od_l_levels, .func (PySem.W.fnOf "_law_levels" "_law_levels" (defArgs s_l_levels) (defBody s_l_levels) (defScope s_l_levels) .none kV_l_levels dc_l_levels pm_l_levels an_l_levels cd_l_levels ct_l_levels), sl_l_levels⟩)
    (c_l_levels : PySem.W.codeIn K cd_l_levels "_law_levels" = true)
    (k_l_levels : PySem.W.keepIn K (.ref f_l_levels) = true)
    (a_l_row : PySem.W.nsIn K mainGlobals "_law_row" = some (some (.ref f_l_row)))
    (l_l_row : K.lookup f_l_row = some ⟨oc_l_row, od_l_row, .func (PySem.W.fnOf "_law_row" "_law_row" (defArgs s_l_row) (defBody s_l_row) (defScope s_l_row) .none kV_l_row dc_l_row pm_l_row an_l_row cd_l_row ct_l_row), sl_l_row⟩)
    (c_l_row : PySem.W.codeIn K cd_l_row "_law_row" = true)
    (k_l_row : PySem.W.keepIn K (.ref f_l_row) = true)
    (a_l_walked : PySem.W.nsIn K mainGlobals "_law_walked" = some (some (.ref f_l_walked)))
    (l_l_walked : K.lookup f_l_walked = some ⟨oc_l_walked, od_l_walked, .func (PySem.W.fnOf "_law_walked" "_law_walked" (defArgs s_l_walked) (defBody s_l_walked) (defScope s_l_walked) .none kV_l_walked dc_l_walked pm_l_walked an_l_walked cd_l_walked ct_l_walked), sl_l_walked⟩)
    (c_l_walked : PySem.W.codeIn K cd_l_walked "_law_walked" = true)
    (k_l_walked : PySem.W.keepIn K (.ref f_l_walked) = true)
    (a_l_runs : PySem.W.nsIn K mainGlobals "_law_runs" = some (some (.ref f_l_runs)))
    (l_l_runs : K.lookup f_l_runs = some ⟨oc_l_runs, od_l_runs, .func (PySem.W.fnOf "_law_runs" "_law_runs" (defArgs s_l_runs) (defBody s_l_runs) (defScope s_l_runs) .none kV_l_runs dc_l_runs pm_l_runs an_l_runs cd_l_runs ct_l_runs), sl_l_runs⟩)
    (c_l_runs : PySem.W.codeIn K cd_l_runs "_law_runs" = true)
    (k_l_runs : PySem.W.keepIn K (.ref f_l_runs) = true)
    (a_l_good : PySem.W.nsIn K mainGlobals "_law_good" = some (some (.ref f_l_good)))
    (l_l_good : K.lookup f_l_good = some ⟨oc_l_good, od_l_good, .func (PySem.W.fnOf "_law_good" "_law_good" (defArgs s_l_good) (defBody s_l_good) (defScope s_l_good) .none kV_l_good dc_l_good pm_l_good an_l_good cd_l_good ct_l_good), sl_l_good⟩)
    (c_l_good : PySem.W.codeIn K cd_l_good "_law_good" = true)
    (k_l_good : PySem.W.keepIn K (.ref f_l_good) = true)
    (a_l_within : PySem.W.nsIn K mainGlobals "_law_within" = some (some (.ref f_l_within)))
    (l_l_within : K.lookup f_l_within = some ⟨oc_l_within, od_l_within, .func (PySem.W.fnOf "_law_within" "_law_within" (defArgs s_l_within) (defBody s_l_within) (defScope s_l_within) .none kV_l_within dc_l_within pm_l_within an_l_within cd_l_within ct_l_within), sl_l_within⟩)
    (c_l_within : PySem.W.codeIn K cd_l_within "_law_within" = true)
    (k_l_within : PySem.W.keepIn K (.ref f_l_within) = true)
    (a_l_size : PySem.W.nsIn K mainGlobals "_law_size" = some (some (.ref f_l_size)))
    (l_l_size : K.lookup f_l_size = some ⟨oc_l_size, od_l_size, .func (PySem.W.fnOf "_law_size" "_law_size" (defArgs s_l_size) (defBody s_l_size) (defScope s_l_size) .none kV_l_size dc_l_size pm_l_size an_l_size cd_l_size ct_l_size), sl_l_size⟩)
    (c_l_size : PySem.W.codeIn K cd_l_size "_law_size" = true)
    (k_l_size : PySem.W.keepIn K (.ref f_l_size) = true)
    (a_l_puts : PySem.W.nsIn K mainGlobals "_law_puts" = some (some (.ref f_l_puts)))
    (l_l_puts : K.lookup f_l_puts = some ⟨oc_l_puts, od_l_puts, .func (PySem.W.fnOf "_law_puts" "_law_puts" (defArgs s_l_puts) (defBody s_l_puts) (defScope s_l_puts) .none kV_l_puts dc_l_puts pm_l_puts an_l_puts cd_l_puts ct_l_puts), sl_l_puts⟩)
    (c_l_puts : PySem.W.codeIn K cd_l_puts "_law_puts" = true)
    (k_l_puts : PySem.W.keepIn K (.ref f_l_puts) = true)
    (a_l_takes : PySem.W.nsIn K mainGlobals "_law_takes" = some (some (.ref f_l_takes)))
    (l_l_takes : K.lookup f_l_takes = some ⟨oc_l_takes, od_l_takes, .func (PySem.W.fnOf "_law_takes" "_law_takes" (defArgs s_l_takes) (defBody s_l_takes) (defScope s_l_takes) .none kV_l_takes dc_l_takes pm_l_takes an_l_takes cd_l_takes ct_l_takes), sl_l_takes⟩)
    (c_l_takes : PySem.W.codeIn K cd_l_takes "_law_takes" = true)
    (k_l_takes : PySem.W.keepIn K (.ref f_l_takes) = true)
    (a_l_pours : PySem.W.nsIn K mainGlobals "_law_pours" = some (some (.ref f_l_pours)))
    (l_l_pours : K.lookup f_l_pours = some ⟨oc_l_pours, od_l_pours, .func (PySem.W.fnOf "_law_pours" "_law_pours" (defArgs s_l_pours) (defBody s_l_pours) (defScope s_l_pours) .none kV_l_pours dc_l_pours pm_l_pours an_l_pours cd_l_pours ct_l_pours), sl_l_pours⟩)
    (c_l_pours : PySem.W.codeIn K cd_l_pours "_law_pours" = true)
    (k_l_pours : PySem.W.keepIn K (.ref f_l_pours) = true)
    (a_l_sinks : PySem.W.nsIn K mainGlobals "_law_sinks" = some (some (.ref f_l_sinks)))
    (l_l_sinks : K.lookup f_l_sinks = some ⟨oc_l_sinks, od_l_sinks, .func (PySem.W.fnOf "_law_sinks" "_law_sinks" (defArgs s_l_sinks) (defBody s_l_sinks) (defScope s_l_sinks) .none kV_l_sinks dc_l_sinks pm_l_sinks an_l_sinks cd_l_sinks ct_l_sinks), sl_l_sinks⟩)
    (c_l_sinks : PySem.W.codeIn K cd_l_sinks "_law_sinks" = true)
    (k_l_sinks : PySem.W.keepIn K (.ref f_l_sinks) = true)
    (a_l_deed : PySem.W.nsIn K mainGlobals "_law_deed" = some (some (.ref f_l_deed)))
    (l_l_deed : K.lookup f_l_deed = some ⟨oc_l_deed, od_l_deed, .func (PySem.W.fnOf "_law_deed" "_law_deed" (defArgs s_l_deed) (defBody s_l_deed) (defScope s_l_deed) .none kV_l_deed dc_l_deed pm_l_deed an_l_deed cd_l_deed ct_l_deed), sl_l_deed⟩)
    (c_l_deed : PySem.W.codeIn K cd_l_deed "_law_deed" = true)
    (k_l_deed : PySem.W.keepIn K (.ref f_l_deed) = true)
    (a_law : PySem.W.nsIn K mainGlobals "law" = some (some (.ref f_law)))
    (l_law : K.lookup f_law = some ⟨oc_law, od_law, .func (PySem.W.fnOf "law" "law" (defArgs s_law) (defBody s_law) (defScope s_law) .none kV_law dc_law pm_law an_law cd_law ct_law), sl_law⟩)
    (c_law : PySem.W.codeIn K cd_law "law" = true)
    (k_law : PySem.W.keepIn K (.ref f_law) = true)
    (z_ValueError : PySem.W.nsIn K mainGlobals "ValueError" = some none)
    (z_bool : PySem.W.nsIn K mainGlobals "bool" = some none)
    (z_int : PySem.W.nsIn K mainGlobals "int" = some none)
    (z_isinstance : PySem.W.nsIn K mainGlobals "isinstance" = some none)
    (z_len : PySem.W.nsIn K mainGlobals "len" = some none)
    (z_list : PySem.W.nsIn K mainGlobals "list" = some none)
    (z_min : PySem.W.nsIn K mainGlobals "min" = some none)
    (z_range : PySem.W.nsIn K mainGlobals "range" = some none)
    (z_reversed : PySem.W.nsIn K mainGlobals "reversed" = some none)
    (z_sorted : PySem.W.nsIn K mainGlobals "sorted" = some none)
    (z_tuple : PySem.W.nsIn K mainGlobals "tuple" = some none)
    : ∃ fd : FuncData, (∀ (s : Shared) (v : Value), BindsTo s fd ⟨[v], []⟩ [("_law_script", v)]) ∧ ∀ base : Heap, K.In base → base.Ns mainGlobals mg → FnOk l.prog w K mg base CX0 30 fa fd ["_law_script"] (sp_law K) := by
  have e := hfa.symm.trans (PySem.W.mg_of X G a_law)
  cases e
  have F_Node_init := fun_mk (st := s_Node_init) l_Node_init c_Node_init k_Node_init
  have b_Node_init := F_Node_init.binds (ps := ["self", "thing", "weight", "home"]) fun _ _ _ _ _ _ us hl => match us, hl with | [_, _, _, _], _ => rfl
  have F_lesser := fun_mk (st := s_lesser) l_lesser c_lesser k_lesser
  have b_lesser := F_lesser.binds (ps := ["one", "other"]) fun _ _ _ _ _ _ us hl => match us, hl with | [_, _], _ => rfl
  have F_run_of := fun_mk (st := s_run_of) l_run_of c_run_of k_run_of
  have b_run_of := F_run_of.binds (ps := ["top"]) fun _ _ _ _ _ _ us hl => match us, hl with | [_], _ => rfl
  have F_thing_of := fun_mk (st := s_thing_of) l_thing_of c_thing_of k_thing_of
  have b_thing_of := F_thing_of.binds (ps := ["top"]) fun _ _ _ _ _ _ us hl => match us, hl with | [_], _ => rfl
  have F_settle := fun_mk (st := s_settle) l_settle c_settle k_settle
  have b_settle := F_settle.binds (ps := ["node"]) fun _ _ _ _ _ _ us hl => match us, hl with | [_], _ => rfl
  have F_meet := fun_mk (st := s_meet) l_meet c_meet k_meet
  have b_meet := F_meet.binds (ps := ["one", "other"]) fun _ _ _ _ _ _ us hl => match us, hl with | [_, _], _ => rfl
  have F_joined := fun_mk (st := s_joined) l_joined c_joined k_joined
  have b_joined := F_joined.binds (ps := ["one", "other"]) fun _ _ _ _ _ _ us hl => match us, hl with | [_, _], _ => rfl
  have F_cut_out := fun_mk (st := s_cut_out) l_cut_out c_cut_out k_cut_out
  have b_cut_out := F_cut_out.binds (ps := ["node"]) fun _ _ _ _ _ _ us hl => match us, hl with | [_], _ => rfl
  have F_in_order := fun_mk (st := s_in_order) l_in_order c_in_order k_in_order
  have b_in_order := F_in_order.binds (ps := ["top"]) fun _ _ _ _ _ _ us hl => match us, hl with | [_], _ => rfl
  have F_Field_init := fun_mk (st := s_Field_init) l_Field_init c_Field_init k_Field_init
  have b_Field_init := F_Field_init.binds (ps := ["self"]) fun _ _ _ _ _ _ us hl => match us, hl with | [_], _ => rfl
  have F_Field_heap := fun_mk (st := s_Field_heap) l_Field_heap c_Field_heap k_Field_heap
  have b_Field_heap := F_Field_heap.binds (ps := ["self"]) fun _ _ _ _ _ _ us hl => match us, hl with | [_], _ => rfl
  have F_Field_put := fun_mk (st := s_Field_put) l_Field_put c_Field_put k_Field_put
  have b_Field_put := F_Field_put.binds (ps := ["self", "heap", "weight"]) fun _ _ _ _ _ _ us hl => match us, hl with | [_, _, _], _ => rfl
  have F_Field_least := fun_mk (st := s_Field_least) l_Field_least c_Field_least k_Field_least
  have b_Field_least := F_Field_least.binds (ps := ["self", "heap"]) fun _ _ _ _ _ _ us hl => match us, hl with | [_, _], _ => rfl
  have F_Field_take := fun_mk (st := s_Field_take) l_Field_take c_Field_take k_Field_take
  have b_Field_take := F_Field_take.binds (ps := ["self", "heap"]) fun _ _ _ _ _ _ us hl => match us, hl with | [_, _], _ => rfl
  have F_Field_pour := fun_mk (st := s_Field_pour) l_Field_pour c_Field_pour k_Field_pour
  have b_Field_pour := F_Field_pour.binds (ps := ["self", "heap", "other"]) fun _ _ _ _ _ _ us hl => match us, hl with | [_, _, _], _ => rfl
  have F_Field_sink := fun_mk (st := s_Field_sink) l_Field_sink c_Field_sink k_Field_sink
  have b_Field_sink := F_Field_sink.binds (ps := ["self", "thing", "weight"]) fun _ _ _ _ _ _ us hl => match us, hl with | [_, _, _], _ => rfl
  have F_Field_things := fun_mk (st := s_Field_things) l_Field_things c_Field_things k_Field_things
  have b_Field_things := F_Field_things.binds (ps := ["self", "heap"]) fun _ _ _ _ _ _ us hl => match us, hl with | [_, _], _ => rfl
  have F_Field_tree := fun_mk (st := s_Field_tree) l_Field_tree c_Field_tree k_Field_tree
  have b_Field_tree := F_Field_tree.binds (ps := ["self", "heap"]) fun _ _ _ _ _ _ us hl => match us, hl with | [_, _], _ => rfl
  have F_Field_work := fun_mk (st := s_Field_work) l_Field_work c_Field_work k_Field_work
  have b_Field_work := F_Field_work.binds (ps := ["self"]) fun _ _ _ _ _ _ us hl => match us, hl with | [_], _ => rfl
  have F_Field_plant := fun_mk (st := s_Field_plant) l_Field_plant c_Field_plant k_Field_plant
  have b_Field_plant := F_Field_plant.binds (ps := ["self", "heap", "one", "other"]) fun _ _ _ _ _ _ us hl => match us, hl with | [_, _, _, _], _ => rfl
  have F_Field_check_heap := fun_mk (st := s_Field_check_heap) l_Field_check_heap c_Field_check_heap k_Field_check_heap
  have b_Field_check_heap := F_Field_check_heap.binds (ps := ["self", "heap"]) fun _ _ _ _ _ _ us hl => match us, hl with | [_, _], _ => rfl
  have F_Field_top := fun_mk (st := s_Field_top) l_Field_top c_Field_top k_Field_top
  have b_Field_top := F_Field_top.binds (ps := ["self", "heap"]) fun _ _ _ _ _ _ us hl => match us, hl with | [_, _], _ => rfl
  have F_Field_node := fun_mk (st := s_Field_node) l_Field_node c_Field_node k_Field_node
  have b_Field_node := F_Field_node.binds (ps := ["self", "thing"]) fun _ _ _ _ _ _ us hl => match us, hl with | [_, _], _ => rfl
  have F_l_whole := fun_mk (st := s_l_whole) l_l_whole c_l_whole k_l_whole
  have b_l_whole := F_l_whole.binds (ps := ["_law_found"]) fun _ _ _ _ _ _ us hl => match us, hl with | [_], _ => rfl
  have F_l_weight := fun_mk (st := s_l_weight) l_l_weight c_l_weight k_l_weight
  have b_l_weight := F_l_weight.binds (ps := ["_law_cell", "_law_k"]) fun _ _ _ _ _ _ us hl => match us, hl with | [_, _], _ => rfl
  have F_l_levels := fun_mk (st := s_l_levels) l_l_levels c_l_levels k_l_levels
  have b_l_levels := F_l_levels.binds (ps := ["_law_number"]) fun _ _ _ _ _ _ us hl => match us, hl with | [_], _ => rfl
  have F_l_row := fun_mk (st := s_l_row) l_l_row c_l_row k_l_row
  have b_l_row := F_l_row.binds (ps := ["_law_row_here", "_law_weights"]) fun _ _ _ _ _ _ us hl => match us, hl with | [_, _], _ => rfl
  have F_l_walked := fun_mk (st := s_l_walked) l_l_walked c_l_walked k_l_walked
  have b_l_walked := F_l_walked.binds (ps := ["_law_rows"]) fun _ _ _ _ _ _ us hl => match us, hl with | [_], _ => rfl
  have F_l_runs := fun_mk (st := s_l_runs) l_l_runs c_l_runs k_l_runs
  have b_l_runs := F_l_runs.binds (ps := ["_law_rows", "_law_size_here"]) fun _ _ _ _ _ _ us hl => match us, hl with | [_, _], _ => rfl
  have F_l_good := fun_mk (st := s_l_good) l_l_good c_l_good k_l_good
  have b_l_good := F_l_good.binds (ps := ["_law_field", "_law_weights", "_law_homes", "_law_heap"]) fun _ _ _ _ _ _ us hl => match us, hl with | [_, _, _, _], _ => rfl
  have F_l_within := fun_mk (st := s_l_within) l_l_within c_l_within k_l_within
  have b_l_within := F_l_within.binds (ps := ["_law_field", "_law_most"]) fun _ _ _ _ _ _ us hl => match us, hl with | [_, _], _ => rfl
  have F_l_size := fun_mk (st := s_l_size) l_l_size c_l_size k_l_size
  have b_l_size := F_l_size.binds (ps := ["_law_homes", "_law_heap"]) fun _ _ _ _ _ _ us hl => match us, hl with | [_, _], _ => rfl
  have F_l_puts := fun_mk (st := s_l_puts) l_l_puts c_l_puts k_l_puts
  have b_l_puts := F_l_puts.binds (ps := ["_law_field", "_law_weights", "_law_homes", "_law_heap", "_law_more", "_law_count"]) fun _ _ _ _ _ _ us hl => match us, hl with | [_, _, _, _, _, _], _ => rfl
  have F_l_takes := fun_mk (st := s_l_takes) l_l_takes c_l_takes k_l_takes
  have b_l_takes := F_l_takes.binds (ps := ["_law_field", "_law_homes", "_law_heap", "_law_count"]) fun _ _ _ _ _ _ us hl => match us, hl with | [_, _, _, _], _ => rfl
  have F_l_pours := fun_mk (st := s_l_pours) l_l_pours c_l_pours k_l_pours
  have b_l_pours := F_l_pours.binds (ps := ["_law_field", "_law_homes", "_law_heap", "_law_other"]) fun _ _ _ _ _ _ us hl => match us, hl with | [_, _, _, _], _ => rfl
  have F_l_sinks := fun_mk (st := s_l_sinks) l_l_sinks c_l_sinks k_l_sinks
  have b_l_sinks := F_l_sinks.binds (ps := ["_law_field", "_law_weights", "_law_homes", "_law_more"]) fun _ _ _ _ _ _ us hl => match us, hl with | [_, _, _, _], _ => rfl
  have F_l_deed := fun_mk (st := s_l_deed) l_l_deed c_l_deed k_l_deed
  have b_l_deed := F_l_deed.binds (ps := ["_law_field", "_law_weights", "_law_homes", "_law_cell", "_law_more"]) fun _ _ _ _ _ _ us hl => match us, hl with | [_, _, _, _, _], _ => rfl
  have F_law := fun_mk (st := s_law) l_law c_law k_law
  have b_law := F_law.binds (ps := ["_law_script"]) fun _ _ _ _ _ _ us hl => match us, hl with | [_], _ => rfl
  let T : Txt K mg := {
    c_Node := c_Node
    cl_Node := ⟨pg_Node, hd_Node, po_Node, sa_Node⟩
    gC_Node := PySem.W.mg_of X G q_Node
    n_Node_thing := n_Node_thing
    n_Node_weight := n_Node_weight
    n_Node_home := n_Node_home
    n_Node_above := n_Node_above
    n_Node_left := n_Node_left
    n_Node_right := n_Node_right
    n_Node_run := n_Node_run
    pe_Node := ⟨ob_Node, eq_Node, no_Node⟩
    c_Field := c_Field
    cl_Field := ⟨pg_Field, hd_Field, po_Field, sa_Field⟩
    gC_Field := PySem.W.mg_of X G q_Field
    n_Field_tops := n_Field_tops
    n_Field_nodes := n_Field_nodes
    n_Field_work := n_Field_work
    e_HeapError := e_HeapError
    xHeapError := x_HeapError
    gHeapError := PySem.W.mg_of X G q_HeapError
    kHeapError := k_HeapError
    bHeapError := b_HeapError
    tHeapError := t_HeapError
    e_NoHeap := e_NoHeap
    xNoHeap := x_NoHeap
    gNoHeap := PySem.W.mg_of X G q_NoHeap
    kNoHeap := k_NoHeap
    bNoHeap := b_NoHeap
    tNoHeap := t_NoHeap
    e_NoThing := e_NoThing
    xNoThing := x_NoThing
    gNoThing := PySem.W.mg_of X G q_NoThing
    kNoThing := k_NoThing
    bNoThing := b_NoThing
    tNoThing := t_NoThing
    e_Bare := e_Bare
    xBare := x_Bare
    gBare := PySem.W.mg_of X G q_Bare
    kBare := k_Bare
    bBare := b_Bare
    tBare := t_Bare
    e_Same := e_Same
    xSame := x_Same
    gSame := PySem.W.mg_of X G q_Same
    kSame := k_Same
    bSame := b_Same
    tSame := t_Same
    e_Heavier := e_Heavier
    xHeavier := x_Heavier
    gHeavier := PySem.W.mg_of X G q_Heavier
    kHeavier := k_Heavier
    bHeavier := b_Heavier
    tHeavier := t_Heavier
    a_Node_init := f_Node_init
    d_Node_init := _
    F_Node_init := F_Node_init
    b_Node_init := b_Node_init
    mk_Node := ⟨mk_Node, a_Node_init, i_Node_init, kc_Node⟩
    a_lesser := f_lesser
    d_lesser := _
    F_lesser := F_lesser
    b_lesser := b_lesser
    g_lesser := PySem.W.mg_of X G a_lesser
    a_run_of := f_run_of
    d_run_of := _
    F_run_of := F_run_of
    b_run_of := b_run_of
    g_run_of := PySem.W.mg_of X G a_run_of
    a_thing_of := f_thing_of
    d_thing_of := _
    F_thing_of := F_thing_of
    b_thing_of := b_thing_of
    g_thing_of := PySem.W.mg_of X G a_thing_of
    a_settle := f_settle
    d_settle := _
    F_settle := F_settle
    b_settle := b_settle
    g_settle := PySem.W.mg_of X G a_settle
    a_meet := f_meet
    d_meet := _
    F_meet := F_meet
    b_meet := b_meet
    g_meet := PySem.W.mg_of X G a_meet
    a_joined := f_joined
    d_joined := _
    F_joined := F_joined
    b_joined := b_joined
    g_joined := PySem.W.mg_of X G a_joined
    a_cut_out := f_cut_out
    d_cut_out := _
    F_cut_out := F_cut_out
    b_cut_out := b_cut_out
    g_cut_out := PySem.W.mg_of X G a_cut_out
    a_in_order := f_in_order
    d_in_order := _
    F_in_order := F_in_order
    b_in_order := b_in_order
    g_in_order := PySem.W.mg_of X G a_in_order
    a_Field_init := f_Field_init
    d_Field_init := _
    F_Field_init := F_Field_init
    b_Field_init := b_Field_init
    mk_Field := ⟨mk_Field, a_Field_init, i_Field_init, kc_Field⟩
    a_Field_heap := f_Field_heap
    d_Field_heap := _
    F_Field_heap := F_Field_heap
    b_Field_heap := b_Field_heap
    m_Field_heap := ⟨a_Field_heap, i_Field_heap, k_Field_heap⟩
    a_Field_put := f_Field_put
    d_Field_put := _
    F_Field_put := F_Field_put
    b_Field_put := b_Field_put
    m_Field_put := ⟨a_Field_put, i_Field_put, k_Field_put⟩
    a_Field_least := f_Field_least
    d_Field_least := _
    F_Field_least := F_Field_least
    b_Field_least := b_Field_least
    m_Field_least := ⟨a_Field_least, i_Field_least, k_Field_least⟩
    a_Field_take := f_Field_take
    d_Field_take := _
    F_Field_take := F_Field_take
    b_Field_take := b_Field_take
    m_Field_take := ⟨a_Field_take, i_Field_take, k_Field_take⟩
    a_Field_pour := f_Field_pour
    d_Field_pour := _
    F_Field_pour := F_Field_pour
    b_Field_pour := b_Field_pour
    m_Field_pour := ⟨a_Field_pour, i_Field_pour, k_Field_pour⟩
    a_Field_sink := f_Field_sink
    d_Field_sink := _
    F_Field_sink := F_Field_sink
    b_Field_sink := b_Field_sink
    m_Field_sink := ⟨a_Field_sink, i_Field_sink, k_Field_sink⟩
    a_Field_things := f_Field_things
    d_Field_things := _
    F_Field_things := F_Field_things
    b_Field_things := b_Field_things
    m_Field_things := ⟨a_Field_things, i_Field_things, k_Field_things⟩
    a_Field_tree := f_Field_tree
    d_Field_tree := _
    F_Field_tree := F_Field_tree
    b_Field_tree := b_Field_tree
    m_Field_tree := ⟨a_Field_tree, i_Field_tree, k_Field_tree⟩
    a_Field_work := f_Field_work
    d_Field_work := _
    F_Field_work := F_Field_work
    b_Field_work := b_Field_work
    m_Field_work := ⟨a_Field_work, i_Field_work, k_Field_work⟩
    a_Field_plant := f_Field_plant
    d_Field_plant := _
    F_Field_plant := F_Field_plant
    b_Field_plant := b_Field_plant
    m_Field_plant := ⟨a_Field_plant, i_Field_plant, k_Field_plant⟩
    a_Field_check_heap := f_Field_check_heap
    d_Field_check_heap := _
    F_Field_check_heap := F_Field_check_heap
    b_Field_check_heap := b_Field_check_heap
    m_Field_check_heap := ⟨a_Field_check_heap, i_Field_check_heap, k_Field_check_heap⟩
    a_Field_top := f_Field_top
    d_Field_top := _
    F_Field_top := F_Field_top
    b_Field_top := b_Field_top
    m_Field_top := ⟨a_Field_top, i_Field_top, k_Field_top⟩
    a_Field_node := f_Field_node
    d_Field_node := _
    F_Field_node := F_Field_node
    b_Field_node := b_Field_node
    m_Field_node := ⟨a_Field_node, i_Field_node, k_Field_node⟩
    a_l_whole := f_l_whole
    d_l_whole := _
    F_l_whole := F_l_whole
    b_l_whole := b_l_whole
    g_l_whole := PySem.W.mg_of X G a_l_whole
    a_l_weight := f_l_weight
    d_l_weight := _
    F_l_weight := F_l_weight
    b_l_weight := b_l_weight
    g_l_weight := PySem.W.mg_of X G a_l_weight
    a_l_levels := f_l_levels
    d_l_levels := _
    F_l_levels := F_l_levels
    b_l_levels := b_l_levels
    g_l_levels := PySem.W.mg_of X G a_l_levels
    a_l_row := f_l_row
    d_l_row := _
    F_l_row := F_l_row
    b_l_row := b_l_row
    g_l_row := PySem.W.mg_of X G a_l_row
    a_l_walked := f_l_walked
    d_l_walked := _
    F_l_walked := F_l_walked
    b_l_walked := b_l_walked
    g_l_walked := PySem.W.mg_of X G a_l_walked
    a_l_runs := f_l_runs
    d_l_runs := _
    F_l_runs := F_l_runs
    b_l_runs := b_l_runs
    g_l_runs := PySem.W.mg_of X G a_l_runs
    a_l_good := f_l_good
    d_l_good := _
    F_l_good := F_l_good
    b_l_good := b_l_good
    g_l_good := PySem.W.mg_of X G a_l_good
    a_l_within := f_l_within
    d_l_within := _
    F_l_within := F_l_within
    b_l_within := b_l_within
    g_l_within := PySem.W.mg_of X G a_l_within
    a_l_size := f_l_size
    d_l_size := _
    F_l_size := F_l_size
    b_l_size := b_l_size
    g_l_size := PySem.W.mg_of X G a_l_size
    a_l_puts := f_l_puts
    d_l_puts := _
    F_l_puts := F_l_puts
    b_l_puts := b_l_puts
    g_l_puts := PySem.W.mg_of X G a_l_puts
    a_l_takes := f_l_takes
    d_l_takes := _
    F_l_takes := F_l_takes
    b_l_takes := b_l_takes
    g_l_takes := PySem.W.mg_of X G a_l_takes
    a_l_pours := f_l_pours
    d_l_pours := _
    F_l_pours := F_l_pours
    b_l_pours := b_l_pours
    g_l_pours := PySem.W.mg_of X G a_l_pours
    a_l_sinks := f_l_sinks
    d_l_sinks := _
    F_l_sinks := F_l_sinks
    b_l_sinks := b_l_sinks
    g_l_sinks := PySem.W.mg_of X G a_l_sinks
    a_l_deed := f_l_deed
    d_l_deed := _
    F_l_deed := F_l_deed
    b_l_deed := b_l_deed
    g_l_deed := PySem.W.mg_of X G a_l_deed
    a_law := fa
    d_law := _
    F_law := F_law
    b_law := b_law
    g_law := PySem.W.mg_of X G a_law
    z_ValueError := PySem.W.mg_none_of X G z_ValueError
    z_bool := PySem.W.mg_none_of X G z_bool
    z_int := PySem.W.mg_none_of X G z_int
    z_isinstance := PySem.W.mg_none_of X G z_isinstance
    z_len := PySem.W.mg_none_of X G z_len
    z_list := PySem.W.mg_none_of X G z_list
    z_min := PySem.W.mg_none_of X G z_min
    z_range := PySem.W.mg_none_of X G z_range
    z_reversed := PySem.W.mg_none_of X G z_reversed
    z_sorted := PySem.W.mg_none_of X G z_sorted
    z_tuple := PySem.W.mg_none_of X G z_tuple }
  exact ⟨_, fun s v => .of_eq rfl, fun base _ _ => ok_law T⟩
theorem walk {l : PySem.W.OpenLaw} {q : Program} {loose : List Str} {XP : (Str → Option Value) → Heap → Prop} {YP : World → Heap → Prop} {d : DefRec} {K : Params → PySem.W.Frag} (hn : l.most = some 63) (hdf : d.params.defaults = [])
    (hY : ∀ (w : World) (h : Heap), YP w h → (K w.params).In h)
    (F : ∀ (w : World) (mg : Str → Option Value) (fa : Addr) (h : Heap), (K w.params).In h → h.Ns mainGlobals mg → mg d.name = some (.ref fa) →
      ∃ fd : FuncData, (∀ (s : Shared) (u : Value), BindsTo s fd ⟨[u], []⟩ [("_law_script", u)]) ∧ ∀ base : Heap, (K w.params).In base → base.Ns mainGlobals mg → FnOk l.prog w (K w.params) mg base CX0 30 fa fd ["_law_script"] (sp_law (K w.params))) :
    PySem.W.WalkO q loose XP YP l.row.toRowW d [] (fun f vs => PySem.call f vs) :=
  L2.walk_ofB (n := 63) (k := 30) (x := "_law_script") (CX := fun _ => CX0) (sp := fun w => sp_law (K w.params)) hn (by decide) hdf ⟨rfl, by decide, by decide⟩ hY F (fun _ _ a ns hl hb _ hS => ⟨a, ns, rfl, hS, hl, hb, fun _ => rfl⟩) fun _ _ _ _ _ z => z
end Sp
open PySem PySem.W PyProof.Rows
set_option maxRecDepth 100000 in
set_option maxHeartbeats 0 in
theorem PySem.Challenge.cw_splitheap_k10_whole_trees_holds : PySem.Challenge.rw_splitheap_k10_whole_trees.Holds := by
  w_on; o_law; k_head; (case hw => w_witness2)
  k_fill
  refine Sp.walk (l := PySem.Challenge.rw_splitheap_k10_whole_trees) rfl rfl (fun w h Y => PySem.W.kIn_of Y) ?F
  case F =>
    intro w mg fa h KX G hmg
    refine' Sp.all_mk KX G hmg ?q_Node ?pg_Node ?hd_Node ?po_Node ?sa_Node ?n_Node_thing ?n_Node_weight ?n_Node_home ?n_Node_above ?n_Node_left ?n_Node_right ?n_Node_run ?ob_Node ?eq_Node ?no_Node ?q_Field ?pg_Field ?hd_Field ?po_Field ?sa_Field ?n_Field_tops ?n_Field_nodes ?n_Field_work ?q_HeapError ?x_HeapError ?k_HeapError ?b_HeapError ?t_HeapError ?q_NoHeap ?x_NoHeap ?k_NoHeap ?b_NoHeap ?t_NoHeap ?q_NoThing ?x_NoThing ?k_NoThing ?b_NoThing ?t_NoThing ?q_Bare ?x_Bare ?k_Bare ?b_Bare ?t_Bare ?q_Same ?x_Same ?k_Same ?b_Same ?t_Same ?q_Heavier ?x_Heavier ?k_Heavier ?b_Heavier ?t_Heavier ?a_Node_init ?i_Node_init ?l_Node_init ?c_Node_init ?k_Node_init ?mk_Node ?kc_Node ?a_lesser ?l_lesser ?c_lesser ?k_lesser ?a_run_of ?l_run_of ?c_run_of ?k_run_of ?a_thing_of ?l_thing_of ?c_thing_of ?k_thing_of ?a_settle ?l_settle ?c_settle ?k_settle ?a_meet ?l_meet ?c_meet ?k_meet ?a_joined ?l_joined ?c_joined ?k_joined ?a_cut_out ?l_cut_out ?c_cut_out ?k_cut_out ?a_in_order ?l_in_order ?c_in_order ?k_in_order ?a_Field_init ?i_Field_init ?l_Field_init ?c_Field_init ?k_Field_init ?mk_Field ?kc_Field ?a_Field_heap ?i_Field_heap ?l_Field_heap ?c_Field_heap ?k_Field_heap ?a_Field_put ?i_Field_put ?l_Field_put ?c_Field_put ?k_Field_put ?a_Field_least ?i_Field_least ?l_Field_least ?c_Field_least ?k_Field_least ?a_Field_take ?i_Field_take ?l_Field_take ?c_Field_take ?k_Field_take ?a_Field_pour ?i_Field_pour ?l_Field_pour ?c_Field_pour ?k_Field_pour ?a_Field_sink ?i_Field_sink ?l_Field_sink ?c_Field_sink ?k_Field_sink ?a_Field_things ?i_Field_things ?l_Field_things ?c_Field_things ?k_Field_things ?a_Field_tree ?i_Field_tree ?l_Field_tree ?c_Field_tree ?k_Field_tree ?a_Field_work ?i_Field_work ?l_Field_work ?c_Field_work ?k_Field_work ?a_Field_plant ?i_Field_plant ?l_Field_plant ?c_Field_plant ?k_Field_plant ?a_Field_check_heap ?i_Field_check_heap ?l_Field_check_heap ?c_Field_check_heap ?k_Field_check_heap ?a_Field_top ?i_Field_top ?l_Field_top ?c_Field_top ?k_Field_top ?a_Field_node ?i_Field_node ?l_Field_node ?c_Field_node ?k_Field_node ?a_l_whole ?l_l_whole ?c_l_whole ?k_l_whole ?a_l_weight ?l_l_weight ?c_l_weight ?k_l_weight ?a_l_levels ?l_l_levels ?c_l_levels ?k_l_levels ?a_l_row ?l_l_row ?c_l_row ?k_l_row ?a_l_walked ?l_l_walked ?c_l_walked ?k_l_walked ?a_l_runs ?l_l_runs ?c_l_runs ?k_l_runs ?a_l_good ?l_l_good ?c_l_good ?k_l_good ?a_l_within ?l_l_within ?c_l_within ?k_l_within ?a_l_size ?l_l_size ?c_l_size ?k_l_size ?a_l_puts ?l_l_puts ?c_l_puts ?k_l_puts ?a_l_takes ?l_l_takes ?c_l_takes ?k_l_takes ?a_l_pours ?l_l_pours ?c_l_pours ?k_l_pours ?a_l_sinks ?l_l_sinks ?c_l_sinks ?k_l_sinks ?a_l_deed ?l_l_deed ?c_l_deed ?k_l_deed ?a_law ?l_law ?c_law ?k_law ?z_ValueError ?z_bool ?z_int ?z_isinstance ?z_len ?z_list ?z_min ?z_range ?z_reversed ?z_sorted ?z_tuple
    (case q_Node => k_is)
    (case pg_Node => k_is)
    (case hd_Node => k_is)
    (case po_Node => k_is)
    (case sa_Node => k_is)
    (case n_Node_thing => k_is)
    (case n_Node_weight => k_is)
    (case n_Node_home => k_is)
    (case n_Node_above => k_is)
    (case n_Node_left => k_is)
    (case n_Node_right => k_is)
    (case n_Node_run => k_is)
    (case ob_Node => k_is)
    (case eq_Node => k_is)
    (case no_Node => k_is)
    (case q_Field => k_is)
    (case pg_Field => k_is)
    (case hd_Field => k_is)
    (case po_Field => k_is)
    (case sa_Field => k_is)
    (case n_Field_tops => k_is)
    (case n_Field_nodes => k_is)
    (case n_Field_work => k_is)
    (case q_HeapError => k_is)
    (case x_HeapError => k_exc)
    (case k_HeapError => k_is)
    (case b_HeapError => k_is)
    (case t_HeapError => k_is)
    (case q_NoHeap => k_is)
    (case x_NoHeap => k_exc)
    (case k_NoHeap => k_is)
    (case b_NoHeap => k_is)
    (case t_NoHeap => k_is)
    (case q_NoThing => k_is)
    (case x_NoThing => k_exc)
    (case k_NoThing => k_is)
    (case b_NoThing => k_is)
    (case t_NoThing => k_is)
    (case q_Bare => k_is)
    (case x_Bare => k_exc)
    (case k_Bare => k_is)
    (case b_Bare => k_is)
    (case t_Bare => k_is)
    (case q_Same => k_is)
    (case x_Same => k_exc)
    (case k_Same => k_is)
    (case b_Same => k_is)
    (case t_Same => k_is)
    (case q_Heavier => k_is)
    (case x_Heavier => k_exc)
    (case k_Heavier => k_is)
    (case b_Heavier => k_is)
    (case t_Heavier => k_is)
    (case a_Node_init => k_is)
    (case i_Node_init => k_is)
    (case l_Node_init => k_is)
    (case c_Node_init => k_is)
    (case k_Node_init => k_is)
    (case mk_Node => k_is)
    (case kc_Node => k_is)
    (case a_lesser => k_is)
    (case l_lesser => k_is)
    (case c_lesser => k_is)
    (case k_lesser => k_is)
    (case a_run_of => k_is)
    (case l_run_of => k_is)
    (case c_run_of => k_is)
    (case k_run_of => k_is)
    (case a_thing_of => k_is)
    (case l_thing_of => k_is)
    (case c_thing_of => k_is)
    (case k_thing_of => k_is)
    (case a_settle => k_is)
    (case l_settle => k_is)
    (case c_settle => k_is)
    (case k_settle => k_is)
    (case a_meet => k_is)
    (case l_meet => k_is)
    (case c_meet => k_is)
    (case k_meet => k_is)
    (case a_joined => k_is)
    (case l_joined => k_is)
    (case c_joined => k_is)
    (case k_joined => k_is)
    (case a_cut_out => k_is)
    (case l_cut_out => k_is)
    (case c_cut_out => k_is)
    (case k_cut_out => k_is)
    (case a_in_order => k_is)
    (case l_in_order => k_is)
    (case c_in_order => k_is)
    (case k_in_order => k_is)
    (case a_Field_init => k_is)
    (case i_Field_init => k_is)
    (case l_Field_init => k_is)
    (case c_Field_init => k_is)
    (case k_Field_init => k_is)
    (case mk_Field => k_is)
    (case kc_Field => k_is)
    (case a_Field_heap => k_is)
    (case i_Field_heap => k_is)
    (case l_Field_heap => k_is)
    (case c_Field_heap => k_is)
    (case k_Field_heap => k_is)
    (case a_Field_put => k_is)
    (case i_Field_put => k_is)
    (case l_Field_put => k_is)
    (case c_Field_put => k_is)
    (case k_Field_put => k_is)
    (case a_Field_least => k_is)
    (case i_Field_least => k_is)
    (case l_Field_least => k_is)
    (case c_Field_least => k_is)
    (case k_Field_least => k_is)
    (case a_Field_take => k_is)
    (case i_Field_take => k_is)
    (case l_Field_take => k_is)
    (case c_Field_take => k_is)
    (case k_Field_take => k_is)
    (case a_Field_pour => k_is)
    (case i_Field_pour => k_is)
    (case l_Field_pour => k_is)
    (case c_Field_pour => k_is)
    (case k_Field_pour => k_is)
    (case a_Field_sink => k_is)
    (case i_Field_sink => k_is)
    (case l_Field_sink => k_is)
    (case c_Field_sink => k_is)
    (case k_Field_sink => k_is)
    (case a_Field_things => k_is)
    (case i_Field_things => k_is)
    (case l_Field_things => k_is)
    (case c_Field_things => k_is)
    (case k_Field_things => k_is)
    (case a_Field_tree => k_is)
    (case i_Field_tree => k_is)
    (case l_Field_tree => k_is)
    (case c_Field_tree => k_is)
    (case k_Field_tree => k_is)
    (case a_Field_work => k_is)
    (case i_Field_work => k_is)
    (case l_Field_work => k_is)
    (case c_Field_work => k_is)
    (case k_Field_work => k_is)
    (case a_Field_plant => k_is)
    (case i_Field_plant => k_is)
    (case l_Field_plant => k_is)
    (case c_Field_plant => k_is)
    (case k_Field_plant => k_is)
    (case a_Field_check_heap => k_is)
    (case i_Field_check_heap => k_is)
    (case l_Field_check_heap => k_is)
    (case c_Field_check_heap => k_is)
    (case k_Field_check_heap => k_is)
    (case a_Field_top => k_is)
    (case i_Field_top => k_is)
    (case l_Field_top => k_is)
    (case c_Field_top => k_is)
    (case k_Field_top => k_is)
    (case a_Field_node => k_is)
    (case i_Field_node => k_is)
    (case l_Field_node => k_is)
    (case c_Field_node => k_is)
    (case k_Field_node => k_is)
    (case a_l_whole => k_is)
    (case l_l_whole => k_is)
    (case c_l_whole => k_is)
    (case k_l_whole => k_is)
    (case a_l_weight => k_is)
    (case l_l_weight => k_is)
    (case c_l_weight => k_is)
    (case k_l_weight => k_is)
    (case a_l_levels => k_is)
    (case l_l_levels => k_is)
    (case c_l_levels => k_is)
    (case k_l_levels => k_is)
    (case a_l_row => k_is)
    (case l_l_row => k_is)
    (case c_l_row => k_is)
    (case k_l_row => k_is)
    (case a_l_walked => k_is)
    (case l_l_walked => k_is)
    (case c_l_walked => k_is)
    (case k_l_walked => k_is)
    (case a_l_runs => k_is)
    (case l_l_runs => k_is)
    (case c_l_runs => k_is)
    (case k_l_runs => k_is)
    (case a_l_good => k_is)
    (case l_l_good => k_is)
    (case c_l_good => k_is)
    (case k_l_good => k_is)
    (case a_l_within => k_is)
    (case l_l_within => k_is)
    (case c_l_within => k_is)
    (case k_l_within => k_is)
    (case a_l_size => k_is)
    (case l_l_size => k_is)
    (case c_l_size => k_is)
    (case k_l_size => k_is)
    (case a_l_puts => k_is)
    (case l_l_puts => k_is)
    (case c_l_puts => k_is)
    (case k_l_puts => k_is)
    (case a_l_takes => k_is)
    (case l_l_takes => k_is)
    (case c_l_takes => k_is)
    (case k_l_takes => k_is)
    (case a_l_pours => k_is)
    (case l_l_pours => k_is)
    (case c_l_pours => k_is)
    (case k_l_pours => k_is)
    (case a_l_sinks => k_is)
    (case l_l_sinks => k_is)
    (case c_l_sinks => k_is)
    (case k_l_sinks => k_is)
    (case a_l_deed => k_is)
    (case l_l_deed => k_is)
    (case c_l_deed => k_is)
    (case k_l_deed => k_is)
    (case a_law => k_is)
    (case l_law => k_is)
    (case c_law => k_is)
    (case k_law => k_is)
    (case z_ValueError => k_is)
    (case z_bool => k_is)
    (case z_int => k_is)
    (case z_isinstance => k_is)
    (case z_len => k_is)
    (case z_list => k_is)
    (case z_min => k_is)
    (case z_range => k_is)
    (case z_reversed => k_is)
    (case z_sorted => k_is)
    (case z_tuple => k_is)

