import PyProof.Rows.All
import Wide.All
import OpenK.AllK
import Wide.FinOn
import HandS.ForMost
import HandS.ForExc
import HandS.IsInst
import HandS.EndBits
import HandS.Codes
import HandS.TryMany
import HandS.FStr
import HandS.Small
import HandS.More
import HandS.Evl
import HandS.SortRule
import KE.DataMinMax
import HandS.Iter
import HandS.Rev
import HandS.SortInts
import HandS.TupLe
import HandS.Conv
import PySem.Challenge.RW_splitheap_k11_whole_work
set_option Elab.async false
set_option linter.all false
set_option maxRecDepth 100000
set_option maxHeartbeats 4000000
namespace Sp
open PySem PySem.Spec L2
open PyProof.Rows (mul_int)
/-! ### small things -/
theorem ip_mul {X : Cx} : PIp X .Mult (fun x y H Q => ∃ i j, x = .int i ∧ y = .int j ∧ CMul i j ∧ Q (.int (i * j)) H) :=
  fun pins s σ H x y v u Q I r1 r2 h => iop_mul pins s σ H x y v u Q I r1 r2 h
theorem bits_le {x : Int} : Builtin.Int.intBits x ≤ x.natAbs.log2 + 1 := by
  unfold Builtin.Int.intBits
  split <;> omega
theorem bits_ge {x : Int} : x.natAbs.log2 ≤ Builtin.Int.intBits x := by
  unfold Builtin.Int.intBits
  split
  · rename_i h
    have e : x.natAbs = 0 := by
      first
        | exact Int.natAbs_eq_zero.mpr (by simpa using h)
        | (simp at h; exact Int.natAbs_eq_zero.mpr h)
        | omega
    rw [e]
    decide
  · omega
theorem log2_mono {a b : Nat} (h : a ≤ b) : a.log2 ≤ b.log2 := by
  by_cases ha : a = 0
  · subst ha
    have : Nat.log2 0 = 0 := by decide
    omega
  · have hb : b ≠ 0 := by omega
    exact (Nat.le_log2 hb).mpr (Nat.le_trans (Nat.log2_self_le ha) h)
theorem fdiv_abs (x : Int) {d : Int} (hd : 0 < d) : (x / d).natAbs ≤ x.natAbs := by
  by_cases hx : 0 ≤ x
  · have h3 : 0 ≤ x / d := Int.ediv_nonneg hx (by omega)
    have h4 : x / d ≤ x := Int.ediv_le_self d hx
    omega
  · have h3 : x / d < 0 := Int.ediv_neg_of_neg_of_pos (by omega) hd
    have h2 : x < (x / d + 1) * d := Int.lt_ediv_add_one_mul_self x hd
    have h4 : x ≤ x / d := by
      by_cases c : x ≤ x / d
      · exact c
      · exfalso
        have h8 : (x / d + 1) * d ≤ (x / d + 1) * 1 := Int.mul_le_mul_of_nonpos_left (by omega) (by omega)
        omega
    omega
/-- * of two factors of at most two million bits each -/
def CMulB (i j : Int) : Prop := Builtin.Int.intBits i ≤ 1048577 ∧ Builtin.Int.intBits j ≤ 1048577
theorem CMulB.ok {i j : Int} (h : CMulB i j) : IntMulOk i j := by
  have e : bitsLine = 134217728 := by decide
  unfold IntMulOk
  intro z
  rw [Bool.and_eq_true] at z
  have z2 := z.2
  unfold Builtin.Int.intTooBig at z2
  have z3 := of_decide_eq_true z2
  rw [e] at z3
  have := h.1
  have := h.2
  omega
theorem op_mulB {X : Cx} : OpR X (binaryOp .Mult) (rI CMulB fun i j => .int (i * j)) := opI fun _ _ _ _ _ _ _ hc q => mul_int q hc.ok
theorem bits_div {x d : Int} (hd : 0 < d) (h : Builtin.Int.intBits x ≤ 1048576) : Builtin.Int.intBits (x / d) ≤ 1048577 :=
  Nat.le_trans bits_le (Nat.succ_le_succ (Nat.le_trans (log2_mono (fdiv_abs x hd)) (Nat.le_trans bits_ge h)))
/-- // and % by a written number -/
def rModK (d : Int) : R2 := fun x y H Q => ∃ i, x = .int i ∧ y = .int d ∧ Q (.int (i % d)) H
def rDivK (d : Int) : R2 := fun x y H Q => ∃ i, x = .int i ∧ y = .int d ∧ Q (.int (i / d)) H
theorem op_modK {X : Cx} (d : Int) (hd : 0 < d) : OpR X (binaryOp .Mod) (rModK d) := fun pins s σ H x y v u Q I r1 r2 h => by
  obtain ⟨i, e1, e2, q⟩ := h
  exact op_mod pins s σ H x y v u Q I r1 r2 ⟨i, d, e1, e2, hd, q⟩
theorem op_fdivK {X : Cx} (d : Int) (hd : 0 < d ∧ d < 1073741824) : OpR X (binaryOp .FloorDiv) (rDivK d) := fun pins s σ H x y v u Q I r1 r2 h => by
  obtain ⟨i, e1, e2, q⟩ := h
  exact op_fdiv pins s σ H x y v u Q I r1 r2 ⟨i, d, e1, e2, hd, q⟩
/-- a test that holds, that does not -/
theorem q_yes {p : Prop} [Decidable p] {Q : VK} {H : Hp} (h : p) (q : Q (.bl true) H) : Q (.bl (decide p)) H := by
  rw [decide_eq_true h]
  exact q
theorem q_no {p : Prop} [Decidable p] {Q : VK} {H : Hp} (h : ¬ p) (q : Q (.bl false) H) : Q (.bl (decide p)) H := by
  rw [decide_eq_false h]
  exact q
theorem t_yes {p A B : Prop} [Decidable p] (h : p) (q : A) : if decide p = true then A else B := by
  rw [decide_eq_true h]
  exact iteT q
theorem t_no {p A B : Prop} [Decidable p] (h : ¬ p) (q : B) : if decide p = true then A else B := by
  rw [decide_eq_false h]
  exact iteF q
/-- both ways of a test -/
theorem t_2 {p A B : Prop} [Decidable p] (h1 : p → A) (h2 : ¬ p → B) : if decide p = true then A else B := by
  by_cases h : p
  · exact t_yes h (h1 h)
  · exact t_no h (h2 h)
theorem val_at {ns : List Int} {i : Nat} {y : V} (h : (ns.map V.int)[i]? = some y) : ∃ z, ns[i]? = some z ∧ y = V.int z := by
  rw [List.getElem?_map] at h
  cases e : ns[i]? with
  | none =>
    rw [e] at h
    cases h
  | some z =>
    rw [e] at h
    exact ⟨z, rfl, (Option.some.inj h).symm⟩
/-! ### rules of my own -/
section
variable {X : Cx} {o : Expr} {f : Str} {pos : Pos} {to : TE}
/-- o.f as a target -/
def gFld (K : PySem.W.Frag) (to : TE) (f : Str) : TG := fun y σ H Q => to σ H fun x H2 => ∃ a C dx fs, x = .ref a ∧ H2 a = some (.ins C dx fs) ∧ Cls K C ∧ NoAttr K C f ∧ fs.length < 1000 ∧ Q σ (upd H2 a (.ins C dx (putF f y fs)))
theorem pg_fld (ho : PE X o to) : PG X (.Attribute o f pos) (gFld X.K to f) := by
  refine ⟨fun pins s σ H v u Q I rv hw => ?_⟩
  rw [PySem.assign_Attribute]
  refine PySem.wpAny_bind (PySem.wpAny_holding (thn (ho.run pins s σ H _ I hw) fun ov s1 hz => ?_))
  obtain ⟨x, H2, I2, rx, a, C, dx, fs, ex, ea, cl, na, hl, q⟩ := hz
  subst ex
  obtain rfl : ov = Value.ref a := rx
  refine PySem.wpAny_bind (PySem.wpAny_standAt (PySem.wpAny_bind (PySem.wpAny_holding (setattr_ok I2 ea cl na hl rv fun s3 I3 => ?_))))
  exact PySem.wpAny_release ⟨σ, _, I3, q⟩
theorem pe_fldK {K : PySem.W.Frag} {te : TE} (hK : X.K = K) (he : PE X o te) (hb : attributeBase o f X.env (eval o X.env) = eval o X.env) : PE X (.Attribute o f pos) (tFld K te f) := by
  subst hK
  exact pe_fld he hb
theorem ix_listK {K : PySem.W.Frag} (hK : X.K = K) : IxR X (rIxL K) := by
  subst hK
  exact ix_list
theorem ix_tupK {K : PySem.W.Frag} (hK : X.K = K) : IxR X (rIxT K) := by
  subst hK
  exact ix_tup
end
/-! ### o.m(e, ..) in a try's body: what it raises is told with the slots as they stand -/
def tMethS (m : Str) (C : Addr) (sp : Sp) (E : L2.St → XK) (ta : TE) (t : TA) : TE := fun σ H Q => ta σ H fun x H1 => ∃ a dx fs, x = .ref a ∧ H1 a = some (.ins C dx fs) ∧ fs.lookup m = none ∧ t σ H1 fun vs H2 => sp (.ref a :: vs) H2 Q (E σ)
section
variable {X : Cx} {CX : CXT} {k : Nat} {f C : Addr} {fd : FuncData} {ps : List Str} {sp : Sp} {E : L2.St → XK} {m : Str} {pos apos : Pos} {o e : Expr} {es : List Expr} {ta : TE} {t : TA}
theorem pe_methT {pl : Sem Bool} (he : PE X o ta) (c : Cls X.K C) (hm : Meth X.K C m f) (F : FnOk X.prog X.w X.K X.mg X.base CX k f fd ps sp) (hr : Room k X.A) (hb : Binds X.K fd ps []) (hx : ∀ σ, PassesAt CX X σ (E σ)) (ha : PA X (e :: es) t)
    (hst : starEach (e :: es) X.env = (false, eval e X.env) :: starEach es X.env := by rfl) (hpl : (backTo pos (starEach es X.env)).any (·.1) = false := by rfl)
    (ht : eval (.Call (.Attribute o m apos) (e :: es) [] pos) X.env = (do
      let ov ← eval o X.env
      standAt apos.atName
      let (f, first) ← holding [ov] (getMethod ov m pl)
      callWith pos f first (backTo pos (starEach (e :: es) X.env)) (backToKw pos (keywordEach [] X.env))) := by rfl) :
    PE X (.Call (.Attribute o m apos) (e :: es) [] pos) (tMethS m C sp E ta t) := by
  refine ⟨fun pins s σ H Q I h => ?_⟩
  refine PySem.W.methodCall_KW (pl := pl) (thn (he.run pins s σ H _ I h) fun u s1 ⟨x, H1, I1, rx, a, dx, fs, ex, ea, l, q⟩ => ?_) ht
  subst ex
  obtain rfl : u = Value.ref a := rx
  refine getmeth_ok I1 ea c hm l ?_
  refine PySem.W.callWith_K (first := [.ref a]) (h₀ := X.base) I.ok.mod.kin hm.kp (thn (ha.run pos pins s1 σ H1 _ I1 q) fun us s2 ⟨vs, H2, I2, r, q2⟩ => ⟨I2.kIn, ?_⟩) hst hpl
  exact run_fnS (us := .ref a :: us) (vs := .ref a :: vs) F hr hb (hx σ) I2 (.cons rfl r) q2
end
theorem op_eqDK {X : Cx} {K : PySem.W.Frag} (hK : X.K = K) (hu : X.A.units + 64 < cLine) : OpR X (compareOp .Eq) (rEqD K) := by
  subst hK
  exact op_eqD hu
theorem op_neDK {X : Cx} {K : PySem.W.Frag} (hK : X.K = K) (hu : X.A.units + 64 < cLine) : OpR X (compareOp .NotEq) (rNeD K) := by
  subst hK
  exact op_neD hu
/-- what a clause of the own class D says of an own class C -/
theorem exm_of {K : PySem.W.Frag} {C D : Addr} {b : Bool} (h1 : PySem.W.subIn K (.ref D) (.type "BaseException") = some true) (h2 : PySem.W.isClsIn K D = true) (h3 : PySem.W.typeIn K (.ref D) = some (.type "type")) (h4 : PySem.W.subIn K (.ref C) (.ref D) = some b) : PySem.W.exmOne K (.ref C) (.ref D) = some b := by
  have e1 : (PySem.W.subIn K (.ref D) (.type "BaseException") == some true) = true := by rw [h1] <;> rfl
  have h2' : (PySem.W.clsIn K D).isSome = true := h2
  unfold PySem.W.exmOne PySem.W.kitCls
  rw [if_pos e1]
  have e2 : ((PySem.W.clsIn K D).isSome && PySem.W.typeIn K (.ref D) == some (.type "type")) = true := by rw [h2', h3] <;> rfl
  first
    | exact (if_pos e2).trans h4
    | (rw [if_pos e2]; exact h4)
theorem call_len_seqK {X : Cx} {K : PySem.W.Frag} (hK : X.K = K) : CallR X (.builtin "len") (fun xs H Q => ∃ p ys, xs = [.ref p] ∧ (SqL K H p ys ∨ SqT K H p ys) ∧ Q (.int ys.length) H) := by
  subst hK
  exact call_len_seq
/-! ### min of a list of pairs of ints -/
theorem best_least {α : Type} {lt : α → α → Bool} (O : SrtO.Swo lt) (f : Nat → α) : ∀ k : Nat, argBest (fun i j => lt (f i) (f j)) k ≤ k ∧ ∀ j, j ≤ k → lt (f j) (f (argBest (fun i j => lt (f i) (f j)) k)) = false
  | 0 => ⟨Nat.le_refl _, fun j hj => by
    rw [Nat.le_zero.mp hj]
    exact O.refl _⟩
  | k + 1 => by
    obtain ⟨h1, h2⟩ := best_least O f k
    by_cases hb : lt (f (k + 1)) (f (argBest (fun i j => lt (f i) (f j)) k)) = true
    · have ea : argBest (fun i j => lt (f i) (f j)) (k + 1) = k + 1 := if_pos hb
      rw [ea]
      refine ⟨Nat.le_refl _, fun j hj => ?_⟩
      by_cases c : j = k + 1
      · rw [c]
        exact O.refl _
      · exact O.tr _ _ _ (O.asym _ _ hb) (h2 j (by omega))
    · have ea : argBest (fun i j => lt (f i) (f j)) (k + 1) = argBest (fun i j => lt (f i) (f j)) k := if_neg hb
      rw [ea]
      refine ⟨by omega, fun j hj => ?_⟩
      by_cases c : j = k + 1
      · rw [c]
        exact Bool.eq_false_iff.mpr hb
      · exact h2 j (by omega)
theorem lex_pair (p q : Int × Int) : HT.lexLt [p.1, p.2] [q.1, q.2] = SrtO.lexB p q := by
  rw [HT.lexLt_cons, HT.lexLt_cons, HT.lexLt_nil_nil]
  unfold SrtO.lexB
  by_cases c : p.1 = q.1
  · rw [if_pos c, if_pos c]
    by_cases c2 : p.2 = q.2
    · rw [if_pos c2, c2]
      exact (decide_eq_false (Int.lt_irrefl _)).symm
    · rw [if_neg c2]
  · rw [if_neg c, if_neg c]
/-- an item is a pair, as k tells it -/
abbrev PairV (H : Hp) (k : V → Int × Int) (x : V) : Prop := ∃ t, x = V.ref t ∧ H t = some (.tup [.int (k x).1, .int (k x).2])
def rMinP (K : PySem.W.Frag) : List V → Hp → VK → Prop := fun vs H Q => ∃ (a : Addr) (xs : List V) (k : V → Int × Int), vs = [V.ref a] ∧ SqL K H a xs ∧ xs ≠ [] ∧ (∀ x ∈ xs, PairV H k x) ∧ ∀ m ∈ xs, (∀ y ∈ xs, SrtO.lexB (k y) (k m) = false) → Q m H
theorem cr_minP {X : Cx} (hc : X.calm = true) (hu : X.A.units + 64 < cLine) : CallR X (.builtin "min") (rMinP X.K) := by
  intro pins s σ H vs us Q I r h
  obtain ⟨a, xs, k, rfl, hs, hne, hx, q⟩ := h
  obtain ⟨its, rv, hl, hz⟩ := I.list hs
  rw [Vals.ref1 r]
  obtain ⟨e1, e2⟩ := refs_back rv fun x m => by
    obtain ⟨t, e, _⟩ := hx x m
    exact ⟨t, e⟩
  have hlen : its.length = xs.length := by rw [e1, List.length_map]
  have hpos : 0 < xs.length := List.length_pos_iff.mpr hne
  have item : ∀ (i : Nat) (v : Value), its.toArray[i]? = some v → ∃ t, v = Value.ref t ∧ xs[i]? = some (V.ref t) := fun i v hi => by
    rw [List.getElem?_toArray] at hi
    obtain ⟨t, rfl⟩ := e2 v (List.mem_of_getElem? hi)
    refine ⟨t, rfl, ?_⟩
    rw [e1, List.getElem?_map, hi]
    rfl
  have tup : ∀ (i : Nat) (t : Addr), xs[i]? = some (V.ref t) → ∃ its2 : List Value, PyProof.Rows.IsTup s.heap t its2.toArray ∧ PyProof.Rows.IntsAre its2.toArray.toList [(k (xs.getD i .non)).1, (k (xs.getD i .non)).2] := fun i t hi => by
    obtain ⟨t', e, ht⟩ := hx _ (List.mem_of_getElem? hi)
    cases e
    have e3 : xs.getD i .non = V.ref t := by
      rw [List.getD_eq_getElem?_getD, hi]
      rfl
    obtain ⟨its2, r2, p2, _⟩ := I.tuple (SqT.of (K := X.K) ht)
    refine ⟨its2, p2, ?_⟩
    rw [e3]
    exact intsAre_of (ns := [(k (V.ref t)).1, (k (V.ref t)).2]) r2
  refine PySem.call_min_walkH (PySem.W.iter_listW (A := X.A.in1) (I.ok.hd hc) hl.isList fun s₂ e W st hfp hw hk => ?_)
  refine ⟨_, _, _, _, _, _, _, s.heap, fun i j => SrtO.lexB (k (xs.getD i .non)) (k (xs.getD j .non)), rfl, W, st, hfp, ?_, hw, hk, ?_, fun v s' hP m => ?_⟩
  · rw [List.size_toArray, hlen]
    exact hpos
  · intro i j vi vj s' Q' E' hk' hi hj hq
    obtain ⟨t1, rfl, h1⟩ := item i vi hi
    obtain ⟨t2, rfl, h2⟩ := item j vj hj
    obtain ⟨is1, ⟨o1, ho1, p1⟩, i1⟩ := tup i t1 h1
    obtain ⟨is2, ⟨o2, ho2, p2⟩, i2⟩ := tup j t2 h2
    have hun : X.A.in1.units < cLine := by
      show X.A.units + 1 < cLine
      omega
    refine HT.lt_tupInts (l := t1) (b := t2) ⟨o1, hk' _ _ ho1, p1⟩ ⟨o2, hk' _ _ ho2, p2⟩ i1 i2 hun ?_
    rw [lex_pair]
    exact hq
  · obtain ⟨h', tk, rfl, hk'⟩ := PySem.W.moved_old e rfl m
    obtain ⟨b1, b2⟩ := best_least (α := V) (SrtO.Swo.mk (fun x y h => (ltP_swo k).asym x y h) (fun x y z h1 h2 => (ltP_swo k).tr x y z h1 h2)) (fun i => xs.getD i .non) (its.toArray.size - 1)
    obtain ⟨t, rfl, ht⟩ := item _ v hP
    refine ⟨.ref t, H, I.kept hk', rfl, q _ (List.mem_of_getElem? ht) fun y hy => ?_⟩
    obtain ⟨j, hj⟩ := List.mem_iff_getElem?.mp hy
    have hj2 := (List.getElem?_eq_some_iff.mp hj).1
    have e4 : its.toArray.size - 1 = xs.length - 1 := by rw [List.size_toArray, hlen]
    have z := b2 j (by omega)
    have e5 : xs.getD j .non = y := by
      rw [List.getD_eq_getElem?_getD, hj]
      rfl
    have e6 : ∀ i, xs[i]? = some (V.ref t) → xs.getD i .non = V.ref t := fun i h => by
      rw [List.getD_eq_getElem?_getD, h]
      rfl
    have z2 : SrtO.lexB (k (xs.getD j .non)) (k (xs.getD _ .non)) = false := z
    rw [e5, e6 _ ht] at z2
    exact z2
/-! ### == of instances whose class has no __eq__ of its own, and of None with such -/
section
open PyProof.Rows PySem.SeqAt
variable {M : Model} {prog : Program} {w : World} {A : Around} {E : Value → Shared → Prop} {s : Shared} {K : PySem.W.Frag} {x y C : Addr} {ox oy : Obj} {od od' : Option Obj}
theorem own_eq_call {z : Value} {Q : Value → Shared → Prop} (X : K.In s.heap) (J : PySem.W.InstAt s.heap x ox C od) (hm : PySem.W.mroIn K C (.type "object") = some true)
    (he : ∀ A : Around, wpAny (model prog w) A (Builtin.«object.__eq__» ⟨[.ref x, z], []⟩) (fun f s' => ∃ v, f = .done (.ret v) ∧ Q v s') (fun _ _ => False) s) : wpAny (model prog w) A (call (.builtin "object.__eq__") [.ref x, z]) Q E s := by
  refine wpAny_call (codeAny_call_builtin F.cmp_object.eq.plain F.cmpEntry_eq (PySem.W.check_slot F.cmpKind_eq F.cmpSplit_eq (J.type.andThen (PySem.W.looks_mroIn X hm)) (F.cmpArgs_eq _ _) ?_))
  refine wpAny_mono (he _) (fun f s' hf => ?_) (fun _ _ z => z.elim)
  obtain ⟨v, rfl, q⟩ := hf
  exact q
theorem own_try_same (X : K.In s.heap) (J : PySem.W.InstAt s.heap x ox C od) (hm : PySem.W.mroIn K C (.type "object") = some true) (hs : PySem.W.findIn K (.ref C) "__eq__" = some (some (.builtin "object.__eq__"))) :
    wpAny (model prog w) A (tryCompare (.ref x) "__eq__" (.ref x)) (fun r s' => r = some (.bool true) ∧ s' = s) E s := by
  unfold tryCompare
  exact wpAny_bind (HN.ifBound_objEq X J hs (own_eq_call X J hm fun A => objEq_entry_same ⟨_, rfl, wpAny_pure ⟨rfl, rfl⟩⟩))
theorem own_try_other (hxy : x ≠ y) (X : K.In s.heap) (J : PySem.W.InstAt s.heap x ox C od) (hy : s.heap.get? y = some oy) (hm : PySem.W.mroIn K C (.type "object") = some true) (hs : PySem.W.findIn K (.ref C) "__eq__" = some (some (.builtin "object.__eq__"))) :
    wpAny (model prog w) A (tryCompare (.ref x) "__eq__" (.ref y)) (fun r s' => r = none ∧ s' = s) E s := by
  unfold tryCompare
  have hnt : ox.cls ≠ .type "tuple" := by
    rw [J.cls]
    intro z
    cases z
  exact wpAny_bind (HN.ifBound_objEq X J hs (own_eq_call X J hm fun A => objEq_entry_other hxy J.at_ hy hnt ⟨_, rfl, wpAny_pure ⟨rfl, rfl⟩⟩))
theorem own_try_none (X : K.In s.heap) (J : PySem.W.InstAt s.heap x ox C od) (hm : PySem.W.mroIn K C (.type "object") = some true) (hs : PySem.W.findIn K (.ref C) "__eq__" = some (some (.builtin "object.__eq__"))) :
    wpAny (model prog w) A (tryCompare (.ref x) "__eq__" .none) (fun r s' => r = none ∧ s' = s) E s := by
  unfold tryCompare
  exact wpAny_bind (HN.ifBound_objEq X J hs (own_eq_call X J hm fun A => HN.entry_none ⟨_, rfl, wpAny_pure ⟨rfl, rfl⟩⟩))
theorem own_none_try : wpAny (model prog w) A (tryCompare .none "__eq__" (.ref x)) (fun r s' => r = none ∧ s' = s) E s :=
  wpAny_tryCompare_declines (show s.TypeIs .none "NoneType" from rfl) F.slot_NoneType_eq_refl (call_gives F.slot_NoneType_eq_refl rfl F.entry_NoneType_eq (F.args_NoneType_eq_2 _ _) (NoneType___eq___none_ref_0 x) ⟨rfl, rfl, rfl⟩)
theorem own_eq_same (hu : A.units < cLine) (X : K.In s.heap) (J : PySem.W.InstAt s.heap x ox C od) (hm : PySem.W.mroIn K C (.type "object") = some true) (hs : PySem.W.findIn K (.ref C) "__eq__" = some (some (.builtin "object.__eq__"))) {Q : Value → Shared → Prop} (q : Q (.bool true) s) :
    wpAny (model prog w) A (compareOp .Eq (.ref x) (.ref x)) Q E s := by
  show wpAny _ _ (richCompare .Eq (.ref x) (.ref x)) _ _ _
  simp only [richCompare, cmpInfo_Eq, oneThing_ref]
  refine wpAny_holding (wpAny_bind (wpAny_cRoomFor hu ?_))
  refine wpAny_bind (J.type.here (wpAny_bind (J.type.here ?_)))
  rw [if_neg (by simp)]
  refine wpAny_bind (wpAny_pure ?_)
  simp only [Bool.false_eq_true, if_false]
  refine wpAny_bind (m := tryCompare (.ref x) _ (.ref x)) (wpAny_mono (own_try_same X J hm hs) (fun r s1 z => ?_) fun _ _ e => e)
  obtain ⟨rfl, rfl⟩ := z
  exact wpAny_pure q
theorem own_eq_other (hxy : x ≠ y) (hu : A.units < cLine) (X : K.In s.heap) (J : PySem.W.InstAt s.heap x ox C od) (J' : PySem.W.InstAt s.heap y oy C od') (hm : PySem.W.mroIn K C (.type "object") = some true) (hs : PySem.W.findIn K (.ref C) "__eq__" = some (some (.builtin "object.__eq__"))) {Q : Value → Shared → Prop} (q : Q (.bool false) s) :
    wpAny (model prog w) A (compareOp .Eq (.ref x) (.ref y)) Q E s := by
  show wpAny _ _ (richCompare .Eq (.ref x) (.ref y)) _ _ _
  simp only [richCompare, cmpInfo_Eq, oneThing_ref]
  refine wpAny_holding (wpAny_bind (wpAny_cRoomFor hu ?_))
  refine wpAny_bind (J.type.here (wpAny_bind (J'.type.here ?_)))
  rw [if_neg (by simp)]
  refine wpAny_bind (wpAny_pure ?_)
  simp only [Bool.false_eq_true, if_false, Bool.not_false, if_true]
  refine wpAny_bind (m := tryCompare (.ref x) _ (.ref y)) (wpAny_mono (own_try_other hxy X J J'.at_ hm hs) (fun r s1 z => ?_) fun _ _ e => e)
  obtain ⟨rfl, rfl⟩ := z
  refine wpAny_bind (m := tryCompare (.ref y) _ (.ref x)) (wpAny_mono (own_try_other (Ne.symm hxy) X J' J.at_ hm hs) (fun r s1 z => ?_) fun _ _ e => e)
  obtain ⟨rfl, rfl⟩ := z
  have hnt : ox.cls ≠ .type "tuple" := by
    rw [J.cls]
    intro z
    cases z
  exact wpAny_bind (wpAny_rule (wpAny_bind (wpAny_isSame_ref_other hxy J.at_ J'.at_ hnt (wpAny_pure q))))
theorem none_eq_own (hu : A.units < cLine) (X : K.In s.heap) (J : PySem.W.InstAt s.heap x ox C od) (hm : PySem.W.mroIn K C (.type "object") = some true) (hs : PySem.W.findIn K (.ref C) "__eq__" = some (some (.builtin "object.__eq__")))
    (hn : PySem.W.subIn K (.ref C) (.type "NoneType") = some false) {Q : Value → Shared → Prop} (q : Q (.bool false) s) :
    wpAny (model prog w) A (compareOp .Eq .none (.ref x)) Q E s := by
  show wpAny _ _ (richCompare .Eq .none (.ref x)) _ _ _
  simp only [richCompare, cmpInfo_Eq]
  refine wpAny_holding (wpAny_bind (wpAny_cRoomFor hu ?_))
  refine wpAny_bind (wpAny_typeOf (show s.TypeIs .none "NoneType" from rfl) (wpAny_bind (J.type.here ?_)))
  rw [if_pos (by simp)]
  refine wpAny_bind ((PySem.W.looks_subIn X hn).here ?_)
  simp only [Bool.false_eq_true, if_false, Bool.not_false, if_true]
  refine wpAny_bind (m := tryCompare .none _ (.ref x)) (wpAny_mono own_none_try (fun r s1 z => ?_) fun _ _ e => e)
  obtain ⟨rfl, rfl⟩ := z
  refine wpAny_bind (m := tryCompare (.ref x) _ .none) (wpAny_mono (own_try_none X J hm hs) (fun r s1 z => ?_) fun _ _ e => e)
  obtain ⟨rfl, rfl⟩ := z
  exact wpAny_bind (wpAny_rule (wpAny_bind (wpAny_of_eq (rfl : isSame .none (.ref x) = pure false) (wpAny_pure q))))
end
/-- what == asks of the class at C -/
structure PlainEq (K : PySem.W.Frag) (C : Addr) : Prop where
  ob : PySem.W.mroIn K C (.type "object") = some true
  eq : PySem.W.findIn K (.ref C) "__eq__" = some (some (.builtin "object.__eq__"))
  no : PySem.W.subIn K (.ref C) (.type "NoneType") = some false
def rEqI (K : PySem.W.Frag) : R2 := fun x y H Q => ∃ (b C dx : Addr) (fs : List (Str × V)), y = .ref b ∧ H b = some (.ins C dx fs) ∧ PlainEq K C ∧ (x = .non ∨ ∃ (a dx' : Addr) (fs' : List (Str × V)), x = .ref a ∧ H a = some (.ins C dx' fs')) ∧ Q (.bl (decide (x = y))) H
theorem op_eqI {X : Cx} (hu : X.A.units < cLine) : OpR X (compareOp .Eq) (rEqI X.K) := by
  intro pins s σ H x y v u Q I rx ry h
  obtain ⟨b, C, dx, fs, rfl, hb, pe, hx, q⟩ := h
  obtain rfl : u = Value.ref b := ry
  obtain ⟨mA, O, _⟩ := ins_get I.hok hb
  obtain ⟨od, J, _⟩ := O.look
  rcases hx with rfl | ⟨a, dx', fs', rfl, ha⟩
  · obtain rfl : v = Value.none := rx
    refine none_eq_own hu I.kIn J pe.ob pe.eq pe.no ⟨.bl false, H, I, rfl, ?_⟩
    rw [decide_eq_false (by intro z; cases z)] at q
    exact q
  · obtain rfl : v = Value.ref a := rx
    obtain ⟨mA', O', _⟩ := ins_get I.hok ha
    obtain ⟨od', J', _⟩ := O'.look
    by_cases e : a = b
    · subst e
      refine own_eq_same hu I.kIn J pe.ob pe.eq ⟨.bl true, H, I, rfl, ?_⟩
      rw [decide_eq_true rfl] at q
      exact q
    · refine own_eq_other e hu I.kIn J' J pe.ob pe.eq ⟨.bl false, H, I, rfl, ?_⟩
      rw [decide_eq_false (by intro z; injection z with z; exact e z)] at q
      exact q
def topS (i : Nat) : Stmt := PySem.Challenge.pw_splitheap_k11_whole_work.main.body.getD i (.Pass ⟨0, 0, 0, 0⟩)
abbrev s_Node_init : Stmt := inClass (topS 9) 0
abbrev N_Node_init : List Str := ["self", "thing", "weight", "home"]
theorem sc_Node_init : FnScope N_Node_init ["self", "thing", "weight", "home"] (defScope s_Node_init) := ⟨rfl, rfl, rfl, by decide +kernel, rfl, by decide +kernel, by decide +kernel⟩
abbrev s_lesser : Stmt := topS 10
abbrev N_lesser : List Str := ["one", "other"]
theorem sc_lesser : FnScope N_lesser ["one", "other"] (defScope s_lesser) := ⟨rfl, rfl, rfl, by decide +kernel, rfl, by decide +kernel, by decide +kernel⟩
abbrev s_run_of : Stmt := topS 11
abbrev N_run_of : List Str := ["top"]
theorem sc_run_of : FnScope N_run_of ["top"] (defScope s_run_of) := ⟨rfl, rfl, rfl, by decide +kernel, rfl, by decide +kernel, by decide +kernel⟩
abbrev s_thing_of : Stmt := topS 12
abbrev N_thing_of : List Str := ["top"]
theorem sc_thing_of : FnScope N_thing_of ["top"] (defScope s_thing_of) := ⟨rfl, rfl, rfl, by decide +kernel, rfl, by decide +kernel, by decide +kernel⟩
abbrev s_settle : Stmt := topS 13
abbrev N_settle : List Str := ["node"]
theorem sc_settle : FnScope N_settle ["node"] (defScope s_settle) := ⟨rfl, rfl, rfl, by decide +kernel, rfl, by decide +kernel, by decide +kernel⟩
abbrev s_meet : Stmt := topS 14
abbrev N_meet : List Str := ["one", "other", "below", "meetings"]
theorem sc_meet : FnScope N_meet ["one", "other"] (defScope s_meet) := ⟨rfl, rfl, rfl, by decide +kernel, rfl, by decide +kernel, by decide +kernel⟩
abbrev s_joined : Stmt := topS 15
abbrev N_joined : List Str := ["one", "other", "top", "meetings"]
theorem sc_joined : FnScope N_joined ["one", "other"] (defScope s_joined) := ⟨rfl, rfl, rfl, by decide +kernel, rfl, by decide +kernel, by decide +kernel⟩
abbrev s_cut_out : Stmt := topS 16
abbrev N_cut_out : List Str := ["node", "above", "looked_at", "run_ahead"]
theorem sc_cut_out : FnScope N_cut_out ["node"] (defScope s_cut_out) := ⟨rfl, rfl, rfl, by decide +kernel, rfl, by decide +kernel, by decide +kernel⟩
abbrev s_in_order : Stmt := topS 17
abbrev N_in_order : List Str := ["top", "nodes", "waiting", "node"]
theorem sc_in_order : FnScope N_in_order ["top"] (defScope s_in_order) := ⟨rfl, rfl, rfl, by decide +kernel, rfl, by decide +kernel, by decide +kernel⟩
abbrev s_Field_init : Stmt := inClass (topS 19) 0
abbrev N_Field_init : List Str := ["self"]
theorem sc_Field_init : FnScope N_Field_init ["self"] (defScope s_Field_init) := ⟨rfl, rfl, rfl, by decide +kernel, rfl, by decide +kernel, by decide +kernel⟩
abbrev s_Field_heap : Stmt := inClass (topS 19) 1
abbrev N_Field_heap : List Str := ["self"]
theorem sc_Field_heap : FnScope N_Field_heap ["self"] (defScope s_Field_heap) := ⟨rfl, rfl, rfl, by decide +kernel, rfl, by decide +kernel, by decide +kernel⟩
abbrev s_Field_put : Stmt := inClass (topS 19) 2
abbrev N_Field_put : List Str := ["self", "heap", "weight", "node"]
theorem sc_Field_put : FnScope N_Field_put ["self", "heap", "weight"] (defScope s_Field_put) := ⟨rfl, rfl, rfl, by decide +kernel, rfl, by decide +kernel, by decide +kernel⟩
abbrev s_Field_least : Stmt := inClass (topS 19) 3
abbrev N_Field_least : List Str := ["self", "heap", "top"]
theorem sc_Field_least : FnScope N_Field_least ["self", "heap"] (defScope s_Field_least) := ⟨rfl, rfl, rfl, by decide +kernel, rfl, by decide +kernel, by decide +kernel⟩
abbrev s_Field_take : Stmt := inClass (topS 19) 4
abbrev N_Field_take : List Str := ["self", "heap", "top"]
theorem sc_Field_take : FnScope N_Field_take ["self", "heap"] (defScope s_Field_take) := ⟨rfl, rfl, rfl, by decide +kernel, rfl, by decide +kernel, by decide +kernel⟩
abbrev s_Field_pour : Stmt := inClass (topS 19) 5
abbrev N_Field_pour : List Str := ["self", "heap", "other", "poured", "node"]
theorem sc_Field_pour : FnScope N_Field_pour ["self", "heap", "other"] (defScope s_Field_pour) := ⟨rfl, rfl, rfl, by decide +kernel, rfl, by decide +kernel, by decide +kernel⟩
abbrev s_Field_sink : Stmt := inClass (topS 19) 6
abbrev N_Field_sink : List Str := ["self", "thing", "weight", "node", "looked_at"]
theorem sc_Field_sink : FnScope N_Field_sink ["self", "thing", "weight"] (defScope s_Field_sink) := ⟨rfl, rfl, rfl, by decide +kernel, rfl, by decide +kernel, by decide +kernel⟩
abbrev s_Field_things : Stmt := inClass (topS 19) 9
abbrev N_Field_things : List Str := ["self", "heap"]
theorem sc_Field_things : FnScope N_Field_things ["self", "heap"] (defScope s_Field_things) := ⟨rfl, rfl, rfl, by decide +kernel, rfl, by decide +kernel, by decide +kernel⟩
abbrev s_Field_tree : Stmt := inClass (topS 19) 10
abbrev N_Field_tree : List Str := ["self", "heap", "node"]
theorem sc_Field_tree : FnScope N_Field_tree ["self", "heap"] (defScope s_Field_tree) := ⟨rfl, rfl, rfl, by decide +kernel, rfl, by decide +kernel, by decide +kernel⟩
abbrev s_Field_work : Stmt := inClass (topS 19) 11
abbrev N_Field_work : List Str := ["self"]
theorem sc_Field_work : FnScope N_Field_work ["self"] (defScope s_Field_work) := ⟨rfl, rfl, rfl, by decide +kernel, rfl, by decide +kernel, by decide +kernel⟩
abbrev s_Field_plant : Stmt := inClass (topS 19) 12
abbrev N_Field_plant : List Str := ["self", "heap", "one", "other", "top", "meetings"]
theorem sc_Field_plant : FnScope N_Field_plant ["self", "heap", "one", "other"] (defScope s_Field_plant) := ⟨rfl, rfl, rfl, by decide +kernel, rfl, by decide +kernel, by decide +kernel⟩
abbrev s_Field_check_heap : Stmt := inClass (topS 19) 13
abbrev N_Field_check_heap : List Str := ["self", "heap"]
theorem sc_Field_check_heap : FnScope N_Field_check_heap ["self", "heap"] (defScope s_Field_check_heap) := ⟨rfl, rfl, rfl, by decide +kernel, rfl, by decide +kernel, by decide +kernel⟩
abbrev s_Field_top : Stmt := inClass (topS 19) 14
abbrev N_Field_top : List Str := ["self", "heap", "top"]
theorem sc_Field_top : FnScope N_Field_top ["self", "heap"] (defScope s_Field_top) := ⟨rfl, rfl, rfl, by decide +kernel, rfl, by decide +kernel, by decide +kernel⟩
abbrev s_Field_node : Stmt := inClass (topS 19) 15
abbrev N_Field_node : List Str := ["self", "thing", "node"]
theorem sc_Field_node : FnScope N_Field_node ["self", "thing"] (defScope s_Field_node) := ⟨rfl, rfl, rfl, by decide +kernel, rfl, by decide +kernel, by decide +kernel⟩
abbrev s_l_cell : Stmt := topS 21
abbrev N_l_cell : List Str := ["_law_script", "_law_k"]
theorem sc_l_cell : FnScope N_l_cell ["_law_script", "_law_k"] (defScope s_l_cell) := ⟨rfl, rfl, rfl, by decide +kernel, rfl, by decide +kernel, by decide +kernel⟩
abbrev s_l_weight : Stmt := topS 22
abbrev N_l_weight : List Str := ["_law_cell_here", "_law_k"]
theorem sc_l_weight : FnScope N_l_weight ["_law_cell_here", "_law_k"] (defScope s_l_weight) := ⟨rfl, rfl, rfl, by decide +kernel, rfl, by decide +kernel, by decide +kernel⟩
abbrev s_l_noted : Stmt := topS 23
abbrev N_l_noted : List Str := ["_law_notes", "_law_rows", "_law_row"]
theorem sc_l_noted : FnScope N_l_noted ["_law_notes", "_law_rows"] (defScope s_l_noted) := ⟨rfl, rfl, rfl, by decide +kernel, rfl, by decide +kernel, by decide +kernel⟩
abbrev s_l_run : Stmt := topS 24
abbrev N_l_run : List Str := ["_law_notes", "_law_part"]
theorem sc_l_run : FnScope N_l_run ["_law_notes", "_law_part"] (defScope s_l_run) := ⟨rfl, rfl, rfl, by decide +kernel, rfl, by decide +kernel, by decide +kernel⟩
abbrev s_l_sided : Stmt := topS 25
abbrev N_l_sided : List Str := ["_law_notes", "_law_thing", "_law_note", "_law_held"]
theorem sc_l_sided : FnScope N_l_sided ["_law_notes", "_law_thing"] (defScope s_l_sided) := ⟨rfl, rfl, rfl, by decide +kernel, rfl, by decide +kernel, by decide +kernel⟩
abbrev s_l_joined : Stmt := topS 26
abbrev N_l_joined : List Str := ["_law_notes", "_law_one", "_law_other", "_law_path", "_law_rest", "_law_k", "_law_thing"]
theorem sc_l_joined : FnScope N_l_joined ["_law_notes", "_law_one", "_law_other"] (defScope s_l_joined) := ⟨rfl, rfl, rfl, by decide +kernel, rfl, by decide +kernel, by decide +kernel⟩
abbrev s_l_above : Stmt := topS 27
abbrev N_l_above : List Str := ["_law_notes", "_law_thing", "_law_k"]
theorem sc_l_above : FnScope N_l_above ["_law_notes", "_law_thing"] (defScope s_l_above) := ⟨rfl, rfl, rfl, by decide +kernel, rfl, by decide +kernel, by decide +kernel⟩
abbrev s_l_sunk : Stmt := topS 28
abbrev N_l_sunk : List Str := ["_law_notes", "_law_top_here", "_law_thing", "_law_weight_here", "_law_at", "_law_place", "_law_looks", "_law_goes_on", "_law_before", "_law_found"]
theorem sc_l_sunk : FnScope N_l_sunk ["_law_notes", "_law_top_here", "_law_thing", "_law_weight_here"] (defScope s_l_sunk) := ⟨rfl, rfl, rfl, by decide +kernel, rfl, by decide +kernel, by decide +kernel⟩
abbrev s_l_told : Stmt := topS 29
abbrev N_l_told : List Str := ["_law_notes", "_law_top_here", "_law_rows", "_law_waiting", "_law_thing", "_law_note"]
theorem sc_l_told : FnScope N_l_told ["_law_notes", "_law_top_here"] (defScope s_l_told) := ⟨rfl, rfl, rfl, by decide +kernel, rfl, by decide +kernel, by decide +kernel⟩
abbrev s_l_top : Stmt := topS 30
abbrev N_l_top : List Str := ["_law_rows"]
theorem sc_l_top : FnScope N_l_top ["_law_rows"] (defScope s_l_top) := ⟨rfl, rfl, rfl, by decide +kernel, rfl, by decide +kernel, by decide +kernel⟩
abbrev s_l_due : Stmt := topS 31
abbrev N_l_due : List Str := ["_law_field", "_law_heaps", "_law_notes", "_law_rows", "_law_cell_here", "_law_more", "_law_top_here", "_law_weight_here", "_law_thing", "_law_by"]
theorem sc_l_due : FnScope N_l_due ["_law_field", "_law_heaps", "_law_notes", "_law_rows", "_law_cell_here", "_law_more"] (defScope s_l_due) := ⟨rfl, rfl, rfl, by decide +kernel, rfl, by decide +kernel, by decide +kernel⟩
abbrev s_l_done : Stmt := topS 32
abbrev N_l_done : List Str := ["_law_field", "_law_heap", "_law_other", "_law_kind", "_law_more", "_law_k", "_law_rows", "_law_row"]
theorem sc_l_done : FnScope N_l_done ["_law_field", "_law_heap", "_law_other", "_law_kind", "_law_more", "_law_k"] (defScope s_l_done) := ⟨rfl, rfl, rfl, by decide +kernel, rfl, by decide +kernel, by decide +kernel⟩
abbrev s_law : Stmt := topS 33
abbrev N_law : List Str := ["_law_script", "_law_field", "_law_cell_here", "_law_before", "_law_k", "_law_heaps", "_law_which", "_law_rows", "_law_notes", "_law_due_here"]
theorem sc_law : FnScope N_law ["_law_script"] (defScope s_law) := ⟨rfl, rfl, rfl, by decide +kernel, rfl, by decide +kernel, by decide +kernel⟩
/-- what stands behind the top -/
structure Txt (K : PySem.W.Frag) (mg : Str → Option Value) where
  c_Node : Addr
  cl_Node : Cls K c_Node
  gC_Node : mg "Node" = some (.ref c_Node)
  n_Node_thing : NoAttr K c_Node "thing"
  n_Node_weight : NoAttr K c_Node "weight"
  n_Node_home : NoAttr K c_Node "home"
  n_Node_above : NoAttr K c_Node "above"
  n_Node_left : NoAttr K c_Node "left"
  n_Node_right : NoAttr K c_Node "right"
  n_Node_run : NoAttr K c_Node "run"
  pe_Node : PlainEq K c_Node
  c_Field : Addr
  cl_Field : Cls K c_Field
  gC_Field : mg "Field" = some (.ref c_Field)
  n_Field_tops : NoAttr K c_Field "_tops"
  n_Field_nodes : NoAttr K c_Field "_nodes"
  n_Field_work : NoAttr K c_Field "_work"
  e_HeapError : Addr
  xHeapError : PySem.W.excIn K e_HeapError [.type "ValueError", .type "Exception", .type "BaseException", .type "object"] "ValueError.__new__" = true
  gHeapError : mg "HeapError" = some (.ref e_HeapError)
  kHeapError : PySem.W.keepIn K (.ref e_HeapError) = true
  bHeapError : PySem.W.subIn K (.ref e_HeapError) (.type "BaseException") = some true
  tHeapError : PySem.W.typeIn K (.ref e_HeapError) = some (.type "type")
  e_NoHeap : Addr
  xNoHeap : PySem.W.excIn K e_NoHeap [.type "ValueError", .type "Exception", .type "BaseException", .type "object"] "ValueError.__new__" = true
  gNoHeap : mg "NoHeap" = some (.ref e_NoHeap)
  kNoHeap : PySem.W.keepIn K (.ref e_NoHeap) = true
  bNoHeap : PySem.W.subIn K (.ref e_NoHeap) (.type "BaseException") = some true
  tNoHeap : PySem.W.typeIn K (.ref e_NoHeap) = some (.type "type")
  e_NoThing : Addr
  xNoThing : PySem.W.excIn K e_NoThing [.type "ValueError", .type "Exception", .type "BaseException", .type "object"] "ValueError.__new__" = true
  gNoThing : mg "NoThing" = some (.ref e_NoThing)
  kNoThing : PySem.W.keepIn K (.ref e_NoThing) = true
  bNoThing : PySem.W.subIn K (.ref e_NoThing) (.type "BaseException") = some true
  tNoThing : PySem.W.typeIn K (.ref e_NoThing) = some (.type "type")
  e_Bare : Addr
  xBare : PySem.W.excIn K e_Bare [.type "ValueError", .type "Exception", .type "BaseException", .type "object"] "ValueError.__new__" = true
  gBare : mg "Bare" = some (.ref e_Bare)
  kBare : PySem.W.keepIn K (.ref e_Bare) = true
  bBare : PySem.W.subIn K (.ref e_Bare) (.type "BaseException") = some true
  tBare : PySem.W.typeIn K (.ref e_Bare) = some (.type "type")
  e_Same : Addr
  xSame : PySem.W.excIn K e_Same [.type "ValueError", .type "Exception", .type "BaseException", .type "object"] "ValueError.__new__" = true
  gSame : mg "Same" = some (.ref e_Same)
  kSame : PySem.W.keepIn K (.ref e_Same) = true
  bSame : PySem.W.subIn K (.ref e_Same) (.type "BaseException") = some true
  tSame : PySem.W.typeIn K (.ref e_Same) = some (.type "type")
  e_Heavier : Addr
  xHeavier : PySem.W.excIn K e_Heavier [.type "ValueError", .type "Exception", .type "BaseException", .type "object"] "ValueError.__new__" = true
  gHeavier : mg "Heavier" = some (.ref e_Heavier)
  kHeavier : PySem.W.keepIn K (.ref e_Heavier) = true
  bHeavier : PySem.W.subIn K (.ref e_Heavier) (.type "BaseException") = some true
  tHeavier : PySem.W.typeIn K (.ref e_Heavier) = some (.type "type")
  a_Node_init : Addr
  d_Node_init : FuncData
  F_Node_init : Fun K "__init__" "Node.__init__" s_Node_init a_Node_init d_Node_init
  b_Node_init : Binds K d_Node_init ["self", "thing", "weight", "home"] []
  mk_Node : Mk K c_Node a_Node_init
  a_lesser : Addr
  d_lesser : FuncData
  F_lesser : Fun K "lesser" "lesser" s_lesser a_lesser d_lesser
  b_lesser : Binds K d_lesser ["one", "other"] []
  g_lesser : mg "lesser" = some (.ref a_lesser)
  a_run_of : Addr
  d_run_of : FuncData
  F_run_of : Fun K "run_of" "run_of" s_run_of a_run_of d_run_of
  b_run_of : Binds K d_run_of ["top"] []
  g_run_of : mg "run_of" = some (.ref a_run_of)
  a_thing_of : Addr
  d_thing_of : FuncData
  F_thing_of : Fun K "thing_of" "thing_of" s_thing_of a_thing_of d_thing_of
  b_thing_of : Binds K d_thing_of ["top"] []
  g_thing_of : mg "thing_of" = some (.ref a_thing_of)
  a_settle : Addr
  d_settle : FuncData
  F_settle : Fun K "settle" "settle" s_settle a_settle d_settle
  b_settle : Binds K d_settle ["node"] []
  g_settle : mg "settle" = some (.ref a_settle)
  a_meet : Addr
  d_meet : FuncData
  F_meet : Fun K "meet" "meet" s_meet a_meet d_meet
  b_meet : Binds K d_meet ["one", "other"] []
  g_meet : mg "meet" = some (.ref a_meet)
  a_joined : Addr
  d_joined : FuncData
  F_joined : Fun K "joined" "joined" s_joined a_joined d_joined
  b_joined : Binds K d_joined ["one", "other"] []
  g_joined : mg "joined" = some (.ref a_joined)
  a_cut_out : Addr
  d_cut_out : FuncData
  F_cut_out : Fun K "cut_out" "cut_out" s_cut_out a_cut_out d_cut_out
  b_cut_out : Binds K d_cut_out ["node"] []
  g_cut_out : mg "cut_out" = some (.ref a_cut_out)
  a_in_order : Addr
  d_in_order : FuncData
  F_in_order : Fun K "in_order" "in_order" s_in_order a_in_order d_in_order
  b_in_order : Binds K d_in_order ["top"] []
  g_in_order : mg "in_order" = some (.ref a_in_order)
  a_Field_init : Addr
  d_Field_init : FuncData
  F_Field_init : Fun K "__init__" "Field.__init__" s_Field_init a_Field_init d_Field_init
  b_Field_init : Binds K d_Field_init ["self"] []
  mk_Field : Mk K c_Field a_Field_init
  a_Field_heap : Addr
  d_Field_heap : FuncData
  F_Field_heap : Fun K "heap" "Field.heap" s_Field_heap a_Field_heap d_Field_heap
  b_Field_heap : Binds K d_Field_heap ["self"] []
  m_Field_heap : Meth K c_Field "heap" a_Field_heap
  a_Field_put : Addr
  d_Field_put : FuncData
  F_Field_put : Fun K "put" "Field.put" s_Field_put a_Field_put d_Field_put
  b_Field_put : Binds K d_Field_put ["self", "heap", "weight"] []
  m_Field_put : Meth K c_Field "put" a_Field_put
  a_Field_least : Addr
  d_Field_least : FuncData
  F_Field_least : Fun K "least" "Field.least" s_Field_least a_Field_least d_Field_least
  b_Field_least : Binds K d_Field_least ["self", "heap"] []
  m_Field_least : Meth K c_Field "least" a_Field_least
  a_Field_take : Addr
  d_Field_take : FuncData
  F_Field_take : Fun K "take" "Field.take" s_Field_take a_Field_take d_Field_take
  b_Field_take : Binds K d_Field_take ["self", "heap"] []
  m_Field_take : Meth K c_Field "take" a_Field_take
  a_Field_pour : Addr
  d_Field_pour : FuncData
  F_Field_pour : Fun K "pour" "Field.pour" s_Field_pour a_Field_pour d_Field_pour
  b_Field_pour : Binds K d_Field_pour ["self", "heap", "other"] []
  m_Field_pour : Meth K c_Field "pour" a_Field_pour
  a_Field_sink : Addr
  d_Field_sink : FuncData
  F_Field_sink : Fun K "sink" "Field.sink" s_Field_sink a_Field_sink d_Field_sink
  b_Field_sink : Binds K d_Field_sink ["self", "thing", "weight"] []
  m_Field_sink : Meth K c_Field "sink" a_Field_sink
  a_Field_things : Addr
  d_Field_things : FuncData
  F_Field_things : Fun K "things" "Field.things" s_Field_things a_Field_things d_Field_things
  b_Field_things : Binds K d_Field_things ["self", "heap"] []
  m_Field_things : Meth K c_Field "things" a_Field_things
  a_Field_tree : Addr
  d_Field_tree : FuncData
  F_Field_tree : Fun K "tree" "Field.tree" s_Field_tree a_Field_tree d_Field_tree
  b_Field_tree : Binds K d_Field_tree ["self", "heap"] []
  m_Field_tree : Meth K c_Field "tree" a_Field_tree
  a_Field_work : Addr
  d_Field_work : FuncData
  F_Field_work : Fun K "work" "Field.work" s_Field_work a_Field_work d_Field_work
  b_Field_work : Binds K d_Field_work ["self"] []
  m_Field_work : Meth K c_Field "work" a_Field_work
  a_Field_plant : Addr
  d_Field_plant : FuncData
  F_Field_plant : Fun K "_plant" "Field._plant" s_Field_plant a_Field_plant d_Field_plant
  b_Field_plant : Binds K d_Field_plant ["self", "heap", "one", "other"] []
  m_Field_plant : Meth K c_Field "_plant" a_Field_plant
  a_Field_check_heap : Addr
  d_Field_check_heap : FuncData
  F_Field_check_heap : Fun K "_check_heap" "Field._check_heap" s_Field_check_heap a_Field_check_heap d_Field_check_heap
  b_Field_check_heap : Binds K d_Field_check_heap ["self", "heap"] []
  m_Field_check_heap : Meth K c_Field "_check_heap" a_Field_check_heap
  a_Field_top : Addr
  d_Field_top : FuncData
  F_Field_top : Fun K "_top" "Field._top" s_Field_top a_Field_top d_Field_top
  b_Field_top : Binds K d_Field_top ["self", "heap"] []
  m_Field_top : Meth K c_Field "_top" a_Field_top
  a_Field_node : Addr
  d_Field_node : FuncData
  F_Field_node : Fun K "_node" "Field._node" s_Field_node a_Field_node d_Field_node
  b_Field_node : Binds K d_Field_node ["self", "thing"] []
  m_Field_node : Meth K c_Field "_node" a_Field_node
  a_l_cell : Addr
  d_l_cell : FuncData
  F_l_cell : Fun K "_law_cell" "_law_cell" s_l_cell a_l_cell d_l_cell
  b_l_cell : Binds K d_l_cell ["_law_script", "_law_k"] []
  g_l_cell : mg "_law_cell" = some (.ref a_l_cell)
  a_l_weight : Addr
  d_l_weight : FuncData
  F_l_weight : Fun K "_law_weight" "_law_weight" s_l_weight a_l_weight d_l_weight
  b_l_weight : Binds K d_l_weight ["_law_cell_here", "_law_k"] []
  g_l_weight : mg "_law_weight" = some (.ref a_l_weight)
  a_l_noted : Addr
  d_l_noted : FuncData
  F_l_noted : Fun K "_law_noted" "_law_noted" s_l_noted a_l_noted d_l_noted
  b_l_noted : Binds K d_l_noted ["_law_notes", "_law_rows"] []
  g_l_noted : mg "_law_noted" = some (.ref a_l_noted)
  a_l_run : Addr
  d_l_run : FuncData
  F_l_run : Fun K "_law_run" "_law_run" s_l_run a_l_run d_l_run
  b_l_run : Binds K d_l_run ["_law_notes", "_law_part"] []
  g_l_run : mg "_law_run" = some (.ref a_l_run)
  a_l_sided : Addr
  d_l_sided : FuncData
  F_l_sided : Fun K "_law_sided" "_law_sided" s_l_sided a_l_sided d_l_sided
  b_l_sided : Binds K d_l_sided ["_law_notes", "_law_thing"] []
  g_l_sided : mg "_law_sided" = some (.ref a_l_sided)
  a_l_joined : Addr
  d_l_joined : FuncData
  F_l_joined : Fun K "_law_joined" "_law_joined" s_l_joined a_l_joined d_l_joined
  b_l_joined : Binds K d_l_joined ["_law_notes", "_law_one", "_law_other"] []
  g_l_joined : mg "_law_joined" = some (.ref a_l_joined)
  a_l_above : Addr
  d_l_above : FuncData
  F_l_above : Fun K "_law_above" "_law_above" s_l_above a_l_above d_l_above
  b_l_above : Binds K d_l_above ["_law_notes", "_law_thing"] []
  g_l_above : mg "_law_above" = some (.ref a_l_above)
  a_l_sunk : Addr
  d_l_sunk : FuncData
  F_l_sunk : Fun K "_law_sunk" "_law_sunk" s_l_sunk a_l_sunk d_l_sunk
  b_l_sunk : Binds K d_l_sunk ["_law_notes", "_law_top_here", "_law_thing", "_law_weight_here"] []
  g_l_sunk : mg "_law_sunk" = some (.ref a_l_sunk)
  a_l_told : Addr
  d_l_told : FuncData
  F_l_told : Fun K "_law_told" "_law_told" s_l_told a_l_told d_l_told
  b_l_told : Binds K d_l_told ["_law_notes", "_law_top_here"] []
  g_l_told : mg "_law_told" = some (.ref a_l_told)
  a_l_top : Addr
  d_l_top : FuncData
  F_l_top : Fun K "_law_top" "_law_top" s_l_top a_l_top d_l_top
  b_l_top : Binds K d_l_top ["_law_rows"] []
  g_l_top : mg "_law_top" = some (.ref a_l_top)
  a_l_due : Addr
  d_l_due : FuncData
  F_l_due : Fun K "_law_due" "_law_due" s_l_due a_l_due d_l_due
  b_l_due : Binds K d_l_due ["_law_field", "_law_heaps", "_law_notes", "_law_rows", "_law_cell_here", "_law_more"] []
  g_l_due : mg "_law_due" = some (.ref a_l_due)
  a_l_done : Addr
  d_l_done : FuncData
  F_l_done : Fun K "_law_done" "_law_done" s_l_done a_l_done d_l_done
  b_l_done : Binds K d_l_done ["_law_field", "_law_heap", "_law_other", "_law_kind", "_law_more", "_law_k"] []
  g_l_done : mg "_law_done" = some (.ref a_l_done)
  a_law : Addr
  d_law : FuncData
  F_law : Fun K "law" "law" s_law a_law d_law
  b_law : Binds K d_law ["_law_script"] []
  g_law : mg "law" = some (.ref a_law)
  z_ValueError : mg "ValueError" = none
  z_len : mg "len" = none
  z_list : mg "list" = none
  z_min : mg "min" = none
  z_range : mg "range" = none
/-! ### the trees, plainly -/
/-- a node: its address, its thing, weight, home, run -/
structure Nd where
  a : Addr
  i : Nat
  w : Int
  h : Int
  k : Nat
inductive Tre where
  | nil
  | nd (n : Nd) (l r : Tre)
/-- lesser: by weight, then by number -/
def lt (m n : Nd) : Prop := m.w < n.w ∨ (m.w = n.w ∧ m.i < n.i)
instance (m n : Nd) : Decidable (lt m n) := by unfold lt; infer_instance
theorem lt_trans {m n p : Nd} (a : lt m n) (b : lt n p) : lt m p := by
  unfold lt at *
  omega
theorem lt_irrefl {m : Nd} : ¬ lt m m := by
  unfold lt
  omega
theorem lt_total {m n : Nd} (h : m.i ≠ n.i) (c : ¬ lt m n) : lt n m := by
  unfold lt at *
  omega
namespace Tre
def rk : Tre → Nat
  | nil => 0
  | nd n _ _ => n.k
def nodes : Tre → List Nd
  | nil => []
  | nd n l r => n :: (nodes l ++ nodes r)
def size : Tre → Nat
  | nil => 0
  | nd _ l r => size l + size r + 1
/-- how long the way down the right parts is -/
def spine : Tre → Nat
  | nil => 0
  | nd _ _ r => spine r + 1
/-- the sides set, the run told anew -/
def mk (n : Nd) (l r : Tre) : Tre := if l.rk < r.rk then nd { n with k := l.rk + 1 } r l else nd { n with k := r.rk + 1 } l r
theorem size_nodes : ∀ t : Tre, t.nodes.length = t.size
  | nil => rfl
  | nd n l r => by
    show (n :: (nodes l ++ nodes r)).length = size l + size r + 1
    rw [List.length_cons, List.length_append, size_nodes l, size_nodes r]
def join : Tre → Tre → Tre × Nat
  | nil, t => (t, 0)
  | nd n l r, nil => (nd n l r, 0)
  | nd n l r, nd m p q =>
    if lt m n then
      let z := join q (nd n l r)
      (mk m p z.1, z.2 + 1)
    else
      let z := join r (nd m p q)
      (mk n l z.1, z.2 + 1)
termination_by s t => s.spine + t.spine
decreasing_by
  all_goals simp only [spine]
  all_goals omega
theorem join_nil (t : Tre) : join nil t = (t, 0) := by
  rw [join]
theorem join_nil2 (t : Tre) : join t nil = (t, 0) := by
  cases t <;> rw [join]
theorem join_nd (n : Nd) (l r : Tre) (m : Nd) (p q : Tre) : join (nd n l r) (nd m p q) =
    if lt m n then (mk m p (join q (nd n l r)).1, (join q (nd n l r)).2 + 1) else (mk n l (join r (nd m p q)).1, (join r (nd m p q)).2 + 1) := by
  rw [join]

/-! ### what a node keeps: all but its run -/
structure Dat where
  a : Addr
  i : Nat
  w : Int
  h : Int
  deriving DecidableEq
def _root_.Sp.Nd.dat (n : Nd) : Dat := ⟨n.a, n.i, n.w, n.h⟩
def dats (t : Tre) : List Dat := t.nodes.map Nd.dat
theorem dats_nil : dats nil = [] := rfl
theorem dats_nd (n : Nd) (l r : Tre) : dats (nd n l r) = n.dat :: (dats l ++ dats r) := by
  unfold dats
  show (n :: (nodes l ++ nodes r)).map Nd.dat = _
  rw [List.map_cons, List.map_append]
theorem mk_dats (n : Nd) (l r : Tre) : (dats (mk n l r)).Perm (n.dat :: (dats l ++ dats r)) := by
  unfold mk
  split
  · rw [dats_nd]
    exact List.Perm.cons _ List.perm_append_comm
  · rw [dats_nd]
    exact List.Perm.refl _
theorem join_dats : ∀ (N : Nat) (s t : Tre), s.spine + t.spine ≤ N → (dats (join s t).1).Perm (dats s ++ dats t)
  | N, nil, t, _ => by
    rw [join_nil, dats_nil]
    exact List.Perm.refl _
  | N, nd n l r, nil, _ => by
    rw [join_nil2, dats_nil, List.append_nil]
  | 0, nd n l r, nd m p q, h => by
    simp only [spine] at h
    omega
  | N + 1, nd n l r, nd m p q, h => by
    simp only [spine] at h
    rw [join_nd]
    split
    · have ih := join_dats N q (nd n l r) (by simp only [spine]; omega)
      refine (mk_dats m p _).trans ?_
      rw [dats_nd m]
      refine ((List.Perm.cons _ (List.Perm.append_left _ ih)).trans ?_)
      -- m :: (p ++ (q ++ s)) ~ s ++ (m :: (p ++ q))
      refine List.Perm.trans ?_ List.perm_append_comm
      rw [← List.append_assoc]
      exact List.Perm.refl _
    · have ih := join_dats N r (nd m p q) (by simp only [spine]; omega)
      refine (mk_dats n l _).trans ?_
      rw [dats_nd n]
      refine ((List.Perm.cons _ (List.Perm.append_left _ ih)).trans ?_)
      rw [← List.append_assoc]
      exact List.Perm.refl _
theorem joinD (s t : Tre) : (dats (join s t).1).Perm (dats s ++ dats t) := join_dats _ s t (Nat.le_refl _)

/-! ### the order: a thing is lesser than all in its parts -/
def dlt (m n : Dat) : Prop := m.w < n.w ∨ (m.w = n.w ∧ m.i < n.i)
theorem lt_dat {m n : Nd} : lt m n ↔ dlt m.dat n.dat := Iff.rfl
theorem dlt_trans {m n p : Dat} (a : dlt m n) (b : dlt n p) : dlt m p := by
  unfold dlt at *
  omega
def HO : Tre → Prop
  | nil => True
  | nd n l r => (∀ d ∈ dats l, dlt n.dat d) ∧ (∀ d ∈ dats r, dlt n.dat d) ∧ HO l ∧ HO r
/-- no number twice -/
def NoI (t : Tre) : Prop := ((dats t).map Dat.i).Nodup
theorem mk_HO {n : Nd} {l r : Tre} (hl : ∀ d ∈ dats l, dlt n.dat d) (hr : ∀ d ∈ dats r, dlt n.dat d) (ol : HO l) (or_ : HO r) : HO (mk n l r) := by
  unfold mk
  split
  · exact ⟨hr, hl, or_, ol⟩
  · exact ⟨hl, hr, ol, or_⟩
theorem HO_top {n : Nd} {l r : Tre} (h : HO (nd n l r)) : ∀ d ∈ dats (nd n l r), d = n.dat ∨ dlt n.dat d := fun d hd => by
  rw [dats_nd] at hd
  rcases List.mem_cons.mp hd with e | hd
  · exact .inl e
  · rcases List.mem_append.mp hd with z | z
    · exact .inr (h.1 d z)
    · exact .inr (h.2.1 d z)
theorem join_HO : ∀ (N : Nat) (s t : Tre), s.spine + t.spine ≤ N → HO s → HO t → ((dats s ++ dats t).map Dat.i).Nodup → HO (join s t).1
  | N, nil, t, _, _, ht, _ => by
    rw [join_nil]
    exact ht
  | N, nd n l r, nil, _, hs, _, _ => by
    rw [join_nil2]
    exact hs
  | 0, nd n l r, nd m p q, h, _, _, _ => by
    simp only [spine] at h
    omega
  | N + 1, nd n l r, nd m p q, h, hs, ht, hN => by
    simp only [spine] at h
    rw [join_nd]
    split
    · rename_i c
      have e : ∀ d ∈ dats (join q (nd n l r)).1, d ∈ dats q ∨ d ∈ dats (nd n l r) := fun d hd => List.mem_append.mp ((joinD q (nd n l r)).mem_iff.mp hd)
      refine mk_HO ht.1 (fun d hd => ?_) ht.2.2.1 (join_HO N q (nd n l r) (by simp only [spine]; omega) ht.2.2.2 hs ?_)
      · rcases e d hd with z | z
        · exact ht.2.1 d z
        · rcases HO_top hs d z with z | z
          · rw [z]
            exact lt_dat.mp c
          · exact dlt_trans (lt_dat.mp c) z
      · refine List.Nodup.sublist ?_ ((List.perm_append_comm.map Dat.i).nodup_iff.mp hN)
        refine List.Sublist.map _ ?_
        refine List.Sublist.append ?_ (List.Sublist.refl _)
        rw [dats_nd]
        exact List.Sublist.cons _ (List.sublist_append_right _ _)
    · rename_i c
      have ni : n.i ≠ m.i := fun z => by
        rw [dats_nd, dats_nd, List.map_append, List.map_cons, List.map_cons] at hN
        have := (List.nodup_append.mp hN).2.2 n.dat.i List.mem_cons_self m.dat.i List.mem_cons_self
        exact this z
      have c' : lt n m := lt_total (fun z => ni z.symm) c
      have e : ∀ d ∈ dats (join r (nd m p q)).1, d ∈ dats r ∨ d ∈ dats (nd m p q) := fun d hd => List.mem_append.mp ((joinD r (nd m p q)).mem_iff.mp hd)
      refine mk_HO hs.1 (fun d hd => ?_) hs.2.2.1 (join_HO N r (nd m p q) (by simp only [spine]; omega) hs.2.2.2 ht ?_)
      · rcases e d hd with z | z
        · exact hs.2.1 d z
        · rcases HO_top ht d z with z | z
          · rw [z]
            exact lt_dat.mp c'
          · exact dlt_trans (lt_dat.mp c') z
      · refine List.Nodup.sublist ?_ hN
        refine List.Sublist.map _ ?_
        refine List.Sublist.append ?_ (List.Sublist.refl _)
        rw [dats_nd]
        exact List.Sublist.cons _ (List.sublist_append_right _ _)
theorem joinHO {s t : Tre} (hs : HO s) (ht : HO t) (hN : ((dats s ++ dats t).map Dat.i).Nodup) : HO (join s t).1 := join_HO _ s t (Nat.le_refl _) hs ht hN

/-! ### the runs -/
def LO : Tre → Prop
  | nil => True
  | nd n l r => n.k = r.rk + 1 ∧ r.rk ≤ l.rk ∧ LO l ∧ LO r
theorem mk_LO {n : Nd} {l r : Tre} (hl : LO l) (hr : LO r) : LO (mk n l r) := by
  unfold mk
  split
  · exact ⟨rfl, by omega, hr, hl⟩
  · exact ⟨rfl, by omega, hl, hr⟩
theorem spine_rk : ∀ {t : Tre}, LO t → t.spine = t.rk
  | nil, _ => rfl
  | nd n l r, h => by
    show spine r + 1 = n.k
    rw [spine_rk h.2.2.2, h.1]
theorem rk_size : ∀ {t : Tre}, LO t → 2 ^ t.rk ≤ t.size + 1
  | nil, _ => by simp [rk, size]
  | nd n l r, h => by
    show 2 ^ n.k ≤ size l + size r + 1 + 1
    have h1 := rk_size h.2.2.1
    have h2 := rk_size h.2.2.2
    have h3 : 2 ^ r.rk ≤ 2 ^ l.rk := Nat.pow_le_pow_right (by decide) h.2.1
    rw [h.1, Nat.pow_succ]
    omega
theorem join_LO : ∀ (N : Nat) (s t : Tre), s.spine + t.spine ≤ N → LO s → LO t → LO (join s t).1
  | N, nil, t, _, _, ht => by
    rw [join_nil]
    exact ht
  | N, nd n l r, nil, _, hs, _ => by
    rw [join_nil2]
    exact hs
  | 0, nd n l r, nd m p q, h, _, _ => by
    simp only [spine] at h
    omega
  | N + 1, nd n l r, nd m p q, h, hs, ht => by
    simp only [spine] at h
    rw [join_nd]
    split
    · exact mk_LO ht.2.2.1 (join_LO N q (nd n l r) (by simp only [spine]; omega) ht.2.2.2 hs)
    · exact mk_LO hs.2.2.1 (join_LO N r (nd m p q) (by simp only [spine]; omega) hs.2.2.2 ht)
theorem joinLO {s t : Tre} (hs : LO s) (ht : LO t) : LO (join s t).1 := join_LO _ s t (Nat.le_refl _) hs ht
theorem join_count : ∀ (N : Nat) (s t : Tre), s.spine + t.spine ≤ N → (join s t).2 ≤ s.spine + t.spine ∧ (s ≠ nil → t ≠ nil → (join s t).2 + 1 ≤ s.spine + t.spine)
  | N, nil, t, _ => by
    rw [join_nil]
    exact ⟨Nat.zero_le _, fun h => absurd rfl h⟩
  | N, nd n l r, nil, _ => by
    rw [join_nil2]
    exact ⟨Nat.zero_le _, fun _ h => absurd rfl h⟩
  | 0, nd n l r, nd m p q, h => by
    simp only [spine] at h
    omega
  | N + 1, nd n l r, nd m p q, h => by
    simp only [spine] at h
    rw [join_nd]
    have key : ∀ (u v : Tre), u.spine + v.spine ≤ N → v ≠ nil → (join u v).2 + 1 ≤ u.spine + v.spine := fun u v hv vn => by
      have ih := join_count N u v hv
      by_cases c : u = nil
      · subst c
        rw [join_nil]
        cases v with
        | nil => exact absurd rfl vn
        | nd a b d =>
          simp only [spine]
          omega
      · exact ih.2 c vn
    split
    · have k := key q (nd n l r) (by simp only [spine]; omega) (by intro z; cases z)
      simp only [spine] at k ⊢
      exact ⟨by omega, fun _ _ => by omega⟩
    · have k := key r (nd m p q) (by simp only [spine]; omega) (by intro z; cases z)
      simp only [spine] at k ⊢
      exact ⟨by omega, fun _ _ => by omega⟩

/-! ### a place within a tree: the things above, the nearest first -/
structure Up where
  n : Nd
  right : Bool
  sib : Tre
def put1 (f : Up) (t : Tre) : Tre := if f.right = true then nd f.n f.sib t else nd f.n t f.sib
def mk1 (f : Up) (t : Tre) : Tre := if f.right = true then mk f.n f.sib t else mk f.n t f.sib
def plug : Tre → List Up → Tre
  | t, [] => t
  | t, f :: fs => plug (put1 f t) fs
/-- going up: sides and runs told anew, till a run stays -/
def climb : Tre → List Up → Tre × Nat
  | t, [] => (t, 0)
  | t, f :: fs => if (mk1 f t).rk = f.n.k then (plug (mk1 f t) fs, 1) else ((climb (mk1 f t) fs).1, (climb (mk1 f t) fs).2 + 1)
def upDats : List Up → List Dat
  | [] => []
  | f :: fs => f.n.dat :: (dats f.sib ++ upDats fs)
theorem put1_dats (f : Up) (t : Tre) : (dats (put1 f t)).Perm (dats t ++ (f.n.dat :: dats f.sib)) := by
  unfold put1
  split
  · rw [dats_nd]
    refine List.Perm.trans ?_ List.perm_append_comm
    exact List.Perm.refl _
  · rw [dats_nd]
    exact List.perm_middle.symm
theorem mk1_dats (f : Up) (t : Tre) : (dats (mk1 f t)).Perm (dats t ++ (f.n.dat :: dats f.sib)) := by
  unfold mk1
  split
  · refine (mk_dats _ _ _).trans ?_
    refine List.Perm.trans ?_ List.perm_append_comm
    exact List.Perm.refl _
  · refine (mk_dats _ _ _).trans ?_
    exact List.perm_middle.symm
theorem plug_dats : ∀ (fs : List Up) (t : Tre), (dats (plug t fs)).Perm (dats t ++ upDats fs)
  | [], t => by
    show (dats t).Perm (dats t ++ [])
    rw [List.append_nil]
  | f :: fs, t => by
    refine (plug_dats fs (put1 f t)).trans ?_
    refine ((put1_dats f t).append_right _).trans ?_
    show (dats t ++ (f.n.dat :: dats f.sib) ++ upDats fs).Perm (dats t ++ (f.n.dat :: (dats f.sib ++ upDats fs)))
    rw [List.append_assoc, List.cons_append]
theorem climb_dats : ∀ (fs : List Up) (t : Tre), (dats (climb t fs).1).Perm (dats t ++ upDats fs)
  | [], t => by
    show (dats t).Perm (dats t ++ [])
    rw [List.append_nil]
  | f :: fs, t => by
    have two : ((dats (mk1 f t)) ++ upDats fs).Perm (dats t ++ upDats (f :: fs)) := by
      refine ((mk1_dats f t).append_right _).trans ?_
      show (dats t ++ (f.n.dat :: dats f.sib) ++ upDats fs).Perm (dats t ++ (f.n.dat :: (dats f.sib ++ upDats fs)))
      rw [List.append_assoc, List.cons_append]
    unfold climb
    split
    · exact (plug_dats fs _).trans two
    · exact (climb_dats fs _).trans two
/-- the order along the way up: each thing above is lesser than its other part and than all of t -/
def UHO : List Up → Prop
  | [] => True
  | f :: fs => (∀ d ∈ dats f.sib, dlt f.n.dat d) ∧ HO f.sib ∧ (∀ g ∈ fs, dlt g.n.dat f.n.dat ∧ ∀ d ∈ dats f.sib, dlt g.n.dat d) ∧ UHO fs
def Below (t : Tre) (fs : List Up) : Prop := ∀ d ∈ dats t, ∀ g ∈ fs, dlt g.n.dat d
theorem put1_HO {f : Up} {t : Tre} (h1 : ∀ d ∈ dats f.sib, dlt f.n.dat d) (h2 : HO f.sib) (h3 : ∀ d ∈ dats t, dlt f.n.dat d) (h4 : HO t) : HO (put1 f t) := by
  unfold put1
  split
  · exact ⟨h1, h3, h2, h4⟩
  · exact ⟨h3, h1, h4, h2⟩
theorem mk1_HO {f : Up} {t : Tre} (h1 : ∀ d ∈ dats f.sib, dlt f.n.dat d) (h2 : HO f.sib) (h3 : ∀ d ∈ dats t, dlt f.n.dat d) (h4 : HO t) : HO (mk1 f t) := by
  unfold mk1
  split
  · exact mk_HO h1 h3 h2 h4
  · exact mk_HO h3 h1 h4 h2
theorem below_up {f : Up} {fs : List Up} {t u : Tre} (hu : (dats u).Perm (dats t ++ (f.n.dat :: dats f.sib))) (U : UHO (f :: fs)) (B : Below t (f :: fs)) : Below u fs := fun d hd g hg => by
  rcases List.mem_append.mp (hu.mem_iff.mp hd) with z | z
  · exact B d z g (List.mem_cons_of_mem _ hg)
  · rcases List.mem_cons.mp z with z | z
    · rw [z]
      exact (U.2.2.1 g hg).1
    · exact (U.2.2.1 g hg).2 d z
theorem plug_HO : ∀ (fs : List Up) (t : Tre), UHO fs → Below t fs → HO t → HO (plug t fs)
  | [], _, _, _, h => h
  | f :: fs, t, U, B, h => plug_HO fs _ U.2.2.2 (below_up (put1_dats f t) U B) (put1_HO U.1 U.2.1 (fun d hd => B d hd f List.mem_cons_self) h)
theorem climb_HO : ∀ (fs : List Up) (t : Tre), UHO fs → Below t fs → HO t → HO (climb t fs).1
  | [], _, _, _, h => h
  | f :: fs, t, U, B, h => by
    have h1 := mk1_HO U.1 U.2.1 (fun d hd => B d hd f List.mem_cons_self) h
    have h2 := below_up (mk1_dats f t) U B
    unfold climb
    split
    · exact plug_HO fs _ U.2.2.2 h2 h1
    · exact climb_HO fs _ U.2.2.2 h2 h1
/-- and back: from the order of the whole -/
theorem HO_plug : ∀ (fs : List Up) (t : Tre), HO (plug t fs) → HO t ∧ UHO fs ∧ Below t fs
  | [], t, h => ⟨h, trivial, fun _ _ g hg => by cases hg⟩
  | f :: fs, t, h => by
    obtain ⟨h1, h2, h3⟩ := HO_plug fs (put1 f t) h
    have e : (∀ d ∈ dats f.sib, dlt f.n.dat d) ∧ HO f.sib ∧ (∀ d ∈ dats t, dlt f.n.dat d) ∧ HO t := by
      unfold put1 at h1
      split at h1
      · exact ⟨h1.1, h1.2.2.1, h1.2.1, h1.2.2.2⟩
      · exact ⟨h1.2.1, h1.2.2.2, h1.1, h1.2.2.1⟩
    have m : ∀ d, d ∈ dats t ∨ d = f.n.dat ∨ d ∈ dats f.sib → d ∈ dats (put1 f t) := fun d hd => (put1_dats f t).mem_iff.mpr (List.mem_append.mpr (hd.imp id fun z => List.mem_cons.mpr z))
    refine ⟨e.2.2.2, ⟨e.1, e.2.1, fun g hg => ⟨h3 _ (m _ (.inr (.inl rfl))) g hg, fun d hd => h3 d (m d (.inr (.inr hd))) g hg⟩, h2⟩, fun d hd g hg => ?_⟩
    rcases List.mem_cons.mp hg with z | z
    · rw [z]
      exact e.2.2.1 d hd
    · exact h3 d (m d (.inl hd)) g z
/-- the runs along the way up: of the part at the place a run of at least q is what the rest leans on -/
def ULO : Nat → List Up → Prop
  | _, [] => True
  | q, f :: fs => LO f.sib ∧ (if f.right = true then q ≤ f.sib.rk ∧ f.n.k = q + 1 else f.sib.rk ≤ q ∧ f.n.k = f.sib.rk + 1) ∧ ULO f.n.k fs
theorem LO_plug : ∀ (fs : List Up) (t : Tre), LO (plug t fs) → LO t ∧ ULO t.rk fs
  | [], t, h => ⟨h, trivial⟩
  | f :: fs, t, h => by
    obtain ⟨h1, h2⟩ := LO_plug fs (put1 f t) h
    have e : (put1 f t).rk = f.n.k := by unfold put1; split <;> rfl
    rw [e] at h2
    unfold put1 at h1
    by_cases c : f.right = true
    · rw [if_pos c] at h1
      refine ⟨h1.2.2.2, h1.2.2.1, ?_, h2⟩
      rw [if_pos c]
      exact ⟨h1.2.1, h1.1⟩
    · rw [if_neg c] at h1
      refine ⟨h1.2.2.1, h1.2.2.2, ?_, h2⟩
      rw [if_neg c]
      exact ⟨h1.2.1, h1.1⟩
theorem plug_LO : ∀ (fs : List Up) (t : Tre), LO t → ULO t.rk fs → LO (plug t fs)
  | [], _, h, _ => h
  | f :: fs, t, h, U => by
    have e : (put1 f t).rk = f.n.k := by unfold put1; split <;> rfl
    refine plug_LO fs _ ?_ (by rw [e]; exact U.2.2)
    have u := U.2.1
    unfold put1
    by_cases c : f.right = true
    · rw [if_pos c] at u ⊢
      exact ⟨u.2, u.1, U.1, h⟩
    · rw [if_neg c] at u ⊢
      exact ⟨u.2, u.1, h, U.1⟩
theorem mk1_LO {f : Up} {t : Tre} (h1 : LO f.sib) (h2 : LO t) : LO (mk1 f t) := by
  unfold mk1
  split
  · exact mk_LO h1 h2
  · exact mk_LO h2 h1
theorem mk_rk (n : Nd) (l r : Tre) : (mk n l r).rk = min l.rk r.rk + 1 := by
  unfold mk
  split
  · show l.rk + 1 = _
    omega
  · show r.rk + 1 = _
    omega
theorem mk1_rk (f : Up) (t : Tre) : (mk1 f t).rk = min f.sib.rk t.rk + 1 := by
  unfold mk1
  split
  · exact mk_rk _ _ _
  · rw [mk_rk]
    omega
/-- where the run stays the rest stands -/
theorem ULO_any : ∀ (fs : List Up) (p q : Nat), ULO q fs → p = q → ULO p fs := fun fs p q h e => e ▸ h
theorem climb_LO : ∀ (fs : List Up) (t : Tre) (q : Nat), LO t → ULO q fs → LO (climb t fs).1
  | [], _, _, h, _ => h
  | f :: fs, t, q, h, U => by
    have h1 := mk1_LO (f := f) U.1 h
    unfold climb
    split
    · rename_i c
      exact plug_LO fs _ h1 (by rw [c]; exact U.2.2)
    · exact climb_LO fs _ _ h1 U.2.2
theorem size_dats (t : Tre) : (dats t).length = t.size := by
  unfold dats
  rw [List.length_map, size_nodes]
/-- how many are looked at: each one whose run changed but the last is a step of the run -/
theorem climb_count : ∀ (fs : List Up) (t : Tre) (q : Nat), LO t → ULO q fs → t.rk < q → ∃ B : Nat, (climb t fs).2 + t.rk ≤ B + 1 ∧ 2 ^ B ≤ (climb t fs).1.size + 1
  | [], t, _, h, _, _ => ⟨t.rk, by show 0 + t.rk ≤ t.rk + 1; omega, rk_size h⟩
  | f :: fs, t, q, h, U, hq => by
    have h1 := mk1_LO (f := f) U.1 h
    have er := mk1_rk f t
    have hs : t.size ≤ (climb t (f :: fs)).1.size := by
      have := (climb_dats (f :: fs) t).length_eq
      rw [List.length_append, size_dats, size_dats] at this
      omega
    have u := U.2.1
    by_cases c : (mk1 f t).rk = f.n.k
    · have e : (climb t (f :: fs)).2 = 1 := by
        unfold climb
        rw [if_pos c]
      refine ⟨t.rk, by rw [e]; omega, ?_⟩
      have := rk_size h
      omega
    · have c2 : (mk1 f t).rk = t.rk + 1 ∧ t.rk + 1 < f.n.k := by
        by_cases r : f.right = true
        · rw [if_pos r] at u
          rw [er, u.2]
          omega
        · rw [if_neg r] at u
          rw [er, u.2] at c
          rw [er, u.2]
          omega
      have e : climb t (f :: fs) = ((climb (mk1 f t) fs).1, (climb (mk1 f t) fs).2 + 1) := by
        show (if (mk1 f t).rk = f.n.k then _ else _) = _
        rw [if_neg c]
      obtain ⟨B, b1, b2⟩ := climb_count fs (mk1 f t) f.n.k h1 U.2.2 (by omega)
      rw [e]
      refine ⟨B, ?_, b2⟩
      show (climb (mk1 f t) fs).2 + 1 + t.rk ≤ B + 1
      omega
end Tre
/-! ### nodes and trees in memory -/
theorem lk_eq {α : Type} {f : Str} {v : α} {r : List (Str × α)} : List.lookup f ((f, v) :: r) = some v := by simp [List.lookup]
theorem lk_ne {α : Type} {f g : Str} {v : α} {r : List (Str × α)} (h : (f == g) = false) : List.lookup f ((g, v) :: r) = List.lookup f r := by simp [List.lookup, h]
theorem pf_eq {f : Str} {v u : V} {r : List (Str × V)} : putF f v ((f, u) :: r) = (f, v) :: r := by simp [putF]
theorem pf_ne {f g : Str} {v u : V} {r : List (Str × V)} (h : (f == g) = false) : putF f v ((g, u) :: r) = (g, u) :: putF f v r := by
  have h2 : ¬ g = f := fun e => by
    subst e
    simp at h
  simp [putF, h2]
/-- a node's attributes, in their order -/
def nf (i w h : Int) (ab l r : V) (k : Int) : List (Str × V) := [("thing", .int i), ("weight", .int w), ("home", .int h), ("above", ab), ("left", l), ("right", r), ("run", .int k)]
section
variable {i w h k z : Int} {ab l r x : V}
theorem ne_weight_thing : (("weight" : Str) == "thing") = false := by decide +kernel
theorem ne_home_thing : (("home" : Str) == "thing") = false := by decide +kernel
theorem ne_home_weight : (("home" : Str) == "weight") = false := by decide +kernel
theorem ne_above_thing : (("above" : Str) == "thing") = false := by decide +kernel
theorem ne_above_weight : (("above" : Str) == "weight") = false := by decide +kernel
theorem ne_above_home : (("above" : Str) == "home") = false := by decide +kernel
theorem ne_left_thing : (("left" : Str) == "thing") = false := by decide +kernel
theorem ne_left_weight : (("left" : Str) == "weight") = false := by decide +kernel
theorem ne_left_home : (("left" : Str) == "home") = false := by decide +kernel
theorem ne_left_above : (("left" : Str) == "above") = false := by decide +kernel
theorem ne_right_thing : (("right" : Str) == "thing") = false := by decide +kernel
theorem ne_right_weight : (("right" : Str) == "weight") = false := by decide +kernel
theorem ne_right_home : (("right" : Str) == "home") = false := by decide +kernel
theorem ne_right_above : (("right" : Str) == "above") = false := by decide +kernel
theorem ne_right_left : (("right" : Str) == "left") = false := by decide +kernel
theorem ne_run_thing : (("run" : Str) == "thing") = false := by decide +kernel
theorem ne_run_weight : (("run" : Str) == "weight") = false := by decide +kernel
theorem ne_run_home : (("run" : Str) == "home") = false := by decide +kernel
theorem ne_run_above : (("run" : Str) == "above") = false := by decide +kernel
theorem ne_run_left : (("run" : Str) == "left") = false := by decide +kernel
theorem ne_run_right : (("run" : Str) == "right") = false := by decide +kernel
theorem nf_thing : (nf i w h ab l r k).lookup ("thing" : Str) = some (V.int i) := lk_eq
theorem nf_weight : (nf i w h ab l r k).lookup ("weight" : Str) = some (V.int w) := (lk_ne ne_weight_thing).trans lk_eq
theorem nf_home : (nf i w h ab l r k).lookup ("home" : Str) = some (V.int h) := (lk_ne ne_home_thing).trans ((lk_ne ne_home_weight).trans lk_eq)
theorem nf_above : (nf i w h ab l r k).lookup ("above" : Str) = some (ab) := (lk_ne ne_above_thing).trans ((lk_ne ne_above_weight).trans ((lk_ne ne_above_home).trans lk_eq))
theorem nf_left : (nf i w h ab l r k).lookup ("left" : Str) = some (l) := (lk_ne ne_left_thing).trans ((lk_ne ne_left_weight).trans ((lk_ne ne_left_home).trans ((lk_ne ne_left_above).trans lk_eq)))
theorem nf_right : (nf i w h ab l r k).lookup ("right" : Str) = some (r) := (lk_ne ne_right_thing).trans ((lk_ne ne_right_weight).trans ((lk_ne ne_right_home).trans ((lk_ne ne_right_above).trans ((lk_ne ne_right_left).trans lk_eq))))
theorem nf_run : (nf i w h ab l r k).lookup ("run" : Str) = some (V.int k) := (lk_ne ne_run_thing).trans ((lk_ne ne_run_weight).trans ((lk_ne ne_run_home).trans ((lk_ne ne_run_above).trans ((lk_ne ne_run_left).trans ((lk_ne ne_run_right).trans lk_eq)))))
theorem put_weight : putF ("weight" : Str) (V.int z) (nf i w h ab l r k) = nf i z h ab l r k := (pf_ne ne_weight_thing).trans (congrArg (List.cons _) pf_eq)
theorem put_home : putF ("home" : Str) (V.int z) (nf i w h ab l r k) = nf i w z ab l r k := (pf_ne ne_home_thing).trans (congrArg (List.cons _) ((pf_ne ne_home_weight).trans (congrArg (List.cons _) pf_eq)))
theorem put_above : putF ("above" : Str) x (nf i w h ab l r k) = nf i w h x l r k := (pf_ne ne_above_thing).trans (congrArg (List.cons _) ((pf_ne ne_above_weight).trans (congrArg (List.cons _) ((pf_ne ne_above_home).trans (congrArg (List.cons _) pf_eq)))))
theorem put_left : putF ("left" : Str) x (nf i w h ab l r k) = nf i w h ab x r k := (pf_ne ne_left_thing).trans (congrArg (List.cons _) ((pf_ne ne_left_weight).trans (congrArg (List.cons _) ((pf_ne ne_left_home).trans (congrArg (List.cons _) ((pf_ne ne_left_above).trans (congrArg (List.cons _) pf_eq)))))))
theorem put_right : putF ("right" : Str) x (nf i w h ab l r k) = nf i w h ab l x k := (pf_ne ne_right_thing).trans (congrArg (List.cons _) ((pf_ne ne_right_weight).trans (congrArg (List.cons _) ((pf_ne ne_right_home).trans (congrArg (List.cons _) ((pf_ne ne_right_above).trans (congrArg (List.cons _) ((pf_ne ne_right_left).trans (congrArg (List.cons _) pf_eq)))))))))
theorem put_run : putF ("run" : Str) (V.int z) (nf i w h ab l r k) = nf i w h ab l r z := (pf_ne ne_run_thing).trans (congrArg (List.cons _) ((pf_ne ne_run_weight).trans (congrArg (List.cons _) ((pf_ne ne_run_home).trans (congrArg (List.cons _) ((pf_ne ne_run_above).trans (congrArg (List.cons _) ((pf_ne ne_run_left).trans (congrArg (List.cons _) ((pf_ne ne_run_right).trans (congrArg (List.cons _) pf_eq)))))))))))
theorem nf_len : (nf i w h ab l r k).length < 1000 := by show 7 < 1000; decide
end
theorem pf_nil {f : Str} {v : V} : putF f v [] = [(f, v)] := by simp [putF]
/-- the seven attributes of a new node -/
theorem new_thing {i w h : Int} : putF ("thing" : Str) (V.int i) ([] : List (Str × V)) = [(("thing" : Str), (V.int i))] := pf_nil
theorem new_weight {i w h : Int} : putF ("weight" : Str) (V.int w) ([(("thing" : Str), (V.int i))] : List (Str × V)) = [(("thing" : Str), (V.int i)), (("weight" : Str), (V.int w))] := (pf_ne ne_weight_thing).trans (congrArg (List.cons _) pf_nil)
theorem new_home {i w h : Int} : putF ("home" : Str) (V.int h) ([(("thing" : Str), (V.int i)), (("weight" : Str), (V.int w))] : List (Str × V)) = [(("thing" : Str), (V.int i)), (("weight" : Str), (V.int w)), (("home" : Str), (V.int h))] := (pf_ne ne_home_thing).trans (congrArg (List.cons _) ((pf_ne ne_home_weight).trans (congrArg (List.cons _) pf_nil)))
theorem new_above {i w h : Int} : putF ("above" : Str) V.non ([(("thing" : Str), (V.int i)), (("weight" : Str), (V.int w)), (("home" : Str), (V.int h))] : List (Str × V)) = [(("thing" : Str), (V.int i)), (("weight" : Str), (V.int w)), (("home" : Str), (V.int h)), (("above" : Str), V.non)] := (pf_ne ne_above_thing).trans (congrArg (List.cons _) ((pf_ne ne_above_weight).trans (congrArg (List.cons _) ((pf_ne ne_above_home).trans (congrArg (List.cons _) pf_nil)))))
theorem new_left {i w h : Int} : putF ("left" : Str) V.non ([(("thing" : Str), (V.int i)), (("weight" : Str), (V.int w)), (("home" : Str), (V.int h)), (("above" : Str), V.non)] : List (Str × V)) = [(("thing" : Str), (V.int i)), (("weight" : Str), (V.int w)), (("home" : Str), (V.int h)), (("above" : Str), V.non), (("left" : Str), V.non)] := (pf_ne ne_left_thing).trans (congrArg (List.cons _) ((pf_ne ne_left_weight).trans (congrArg (List.cons _) ((pf_ne ne_left_home).trans (congrArg (List.cons _) ((pf_ne ne_left_above).trans (congrArg (List.cons _) pf_nil)))))))
theorem new_right {i w h : Int} : putF ("right" : Str) V.non ([(("thing" : Str), (V.int i)), (("weight" : Str), (V.int w)), (("home" : Str), (V.int h)), (("above" : Str), V.non), (("left" : Str), V.non)] : List (Str × V)) = [(("thing" : Str), (V.int i)), (("weight" : Str), (V.int w)), (("home" : Str), (V.int h)), (("above" : Str), V.non), (("left" : Str), V.non), (("right" : Str), V.non)] := (pf_ne ne_right_thing).trans (congrArg (List.cons _) ((pf_ne ne_right_weight).trans (congrArg (List.cons _) ((pf_ne ne_right_home).trans (congrArg (List.cons _) ((pf_ne ne_right_above).trans (congrArg (List.cons _) ((pf_ne ne_right_left).trans (congrArg (List.cons _) pf_nil)))))))))
theorem new_run {i w h : Int} : putF ("run" : Str) (V.int 1) ([(("thing" : Str), (V.int i)), (("weight" : Str), (V.int w)), (("home" : Str), (V.int h)), (("above" : Str), V.non), (("left" : Str), V.non), (("right" : Str), V.non)] : List (Str × V)) = [(("thing" : Str), (V.int i)), (("weight" : Str), (V.int w)), (("home" : Str), (V.int h)), (("above" : Str), V.non), (("left" : Str), V.non), (("right" : Str), V.non), (("run" : Str), (V.int 1))] := (pf_ne ne_run_thing).trans (congrArg (List.cons _) ((pf_ne ne_run_weight).trans (congrArg (List.cons _) ((pf_ne ne_run_home).trans (congrArg (List.cons _) ((pf_ne ne_run_above).trans (congrArg (List.cons _) ((pf_ne ne_run_left).trans (congrArg (List.cons _) ((pf_ne ne_run_right).trans (congrArg (List.cons _) pf_nil)))))))))))
theorem nf_new {i w h : Int} : putF ("run" : Str) (V.int 1) (putF ("right" : Str) V.non (putF ("left" : Str) V.non (putF ("above" : Str) V.non (putF ("home" : Str) (V.int h) (putF ("weight" : Str) (V.int w) (putF ("thing" : Str) (V.int i) [])))))) = nf i w h V.non V.non V.non 1 := by
  rw [new_thing (w := w) (h := h), new_weight (h := h), new_home, new_above, new_left, new_right, new_run]
  rfl
def NodeAt (C : Addr) (H : Hp) (n : Nd) (ab l r : V) : Prop := ∃ dx, H n.a = some (.ins C dx (nf n.i n.w n.h ab l r n.k))
namespace Tre
def ref : Tre → V
  | nil => .non
  | nd n _ _ => .ref n.a
/-- the thing at the top, told as a value -/
def thV : Tre → V
  | nil => .non
  | nd n _ _ => .int n.i
def addrs (t : Tre) : List Addr := (dats t).map Dat.a
theorem addrs_nd (n : Nd) (l r : Tre) : addrs (nd n l r) = n.a :: (addrs l ++ addrs r) := by
  unfold addrs
  rw [dats_nd, List.map_cons, List.map_append]
  rfl
theorem addrs_nil : addrs nil = [] := rfl
theorem join_addrs (s t : Tre) : (addrs (join s t).1).Perm (addrs s ++ addrs t) := by
  unfold addrs
  rw [← List.map_append]
  exact (joinD s t).map _
theorem mk_addrs (n : Nd) (l r : Tre) : (addrs (mk n l r)).Perm (n.a :: (addrs l ++ addrs r)) := by
  unfold addrs
  rw [← List.map_append]
  exact (mk_dats n l r).map Dat.a
end Tre
open Tre
def TAt (C : Addr) (H : Hp) : Tre → V → Prop
  | .nil, _ => True
  | .nd n l r, ab => NodeAt C H n ab (ref l) (ref r) ∧ TAt C H l (.ref n.a) ∧ TAt C H r (.ref n.a)
/-- all but what stands at S is as it was -/
def Frame (S : List Addr) (H H' : Hp) : Prop := ∀ b o, H b = some o → b ∉ S → H' b = some o
theorem Frame.refl {S : List Addr} {H : Hp} : Frame S H H := fun _ _ e _ => e
theorem Frame.trans {S : List Addr} {H H1 H2 : Hp} (a : Frame S H H1) (b : Frame S H1 H2) : Frame S H H2 := fun c o e h => b c o (a c o e h) h
theorem Frame.mono {S S' : List Addr} {H H' : Hp} (a : Frame S H H') (h : ∀ b ∈ S, b ∈ S') : Frame S' H H' := fun b o e hb => a b o e fun z => hb (h b z)
theorem Frame.same {S : List Addr} {H H' : Hp} (a : Same H H') : Frame S H H' := fun b o e _ => a b o e
theorem Frame.wr {S : List Addr} {H : Hp} {p : Addr} {o : HO} (h : p ∈ S) : Frame S H (upd H p o) := fun b u e hb => by
  rw [upd_ne (fun z => hb (by rw [z]; exact h))]
  exact e
theorem Frame.new {S : List Addr} {H : Hp} {p : Addr} {o : HO} (h : H p = none) : Frame S H (upd H p o) := fun b u e _ => by
  rw [upd_ne (ne_of_none e h)]
  exact e
theorem same_new {H : Hp} {p : Addr} {o : HO} (h : H p = none) : Same H (upd H p o) := fun b u e => by
  rw [upd_ne (ne_of_none e h)]
  exact e
section
variable {C : Addr} {H H' : Hp} {n : Nd} {ab l r : V} {t : Tre} {S : List Addr}
theorem NodeAt.keep (h : NodeAt C H n ab l r) (f : Frame S H H') (hn : n.a ∉ S) : NodeAt C H' n ab l r := by
  obtain ⟨dx, e⟩ := h
  exact ⟨dx, f _ _ e hn⟩
theorem TAt.keep : ∀ {t : Tre} {ab : V}, TAt C H t ab → Frame S H H' → (∀ b ∈ addrs t, b ∉ S) → TAt C H' t ab
  | .nil, _, _, _, _ => trivial
  | .nd n l r, ab, h, f, hs => by
    rw [addrs_nd] at hs
    exact ⟨h.1.keep f (hs _ List.mem_cons_self), h.2.1.keep f fun b hb => hs b (List.mem_cons_of_mem _ (List.mem_append_left _ hb)), h.2.2.keep f fun b hb => hs b (List.mem_cons_of_mem _ (List.mem_append_right _ hb))⟩
theorem TAt.same {t : Tre} {ab : V} (h : TAt C H t ab) (s : Same H H') : TAt C H' t ab := h.keep (S := []) (Frame.same s) fun _ _ z => by cases z
theorem TAt.there : ∀ {t : Tre} {ab : V}, TAt C H t ab → ∀ b ∈ addrs t, ∃ dx fs, H b = some (.ins C dx fs)
  | .nil, _, _ => fun b hb => by cases hb
  | .nd n l r, ab, h => fun b hb => by
    rw [addrs_nd] at hb
    rcases List.mem_cons.mp hb with e | hb
    · subst e
      obtain ⟨dx, e⟩ := h.1
      exact ⟨dx, _, e⟩
    · rcases List.mem_append.mp hb with z | z
      · exact h.2.1.there b z
      · exact h.2.2.there b z
theorem TAt.ne {t : Tre} {ab : V} {p : Addr} (h : TAt C H t ab) (hp : H p = none) : p ∉ addrs t := fun z => by
  obtain ⟨dx, fs, e⟩ := h.there p z
  rw [hp] at e
  cases e
/-- the top's above may be set -/
theorem TAt.above {m : Nd} {p q : Tre} {ab x : V} {dx : Addr} (h : TAt C H (.nd m p q) ab) (hN : (addrs (.nd m p q)).Nodup) (e : H m.a = some (.ins C dx (nf m.i m.w m.h ab (ref p) (ref q) m.k))) :
    TAt C (upd H m.a (.ins C dx (putF ("above" : Str) x (nf m.i m.w m.h ab (ref p) (ref q) m.k)))) (.nd m p q) x := by
  rw [addrs_nd, List.nodup_cons] at hN
  have f : Frame [m.a] H (upd H m.a (.ins C dx (putF ("above" : Str) x (nf m.i m.w m.h ab (ref p) (ref q) m.k)))) := Frame.wr (List.mem_singleton.mpr rfl)
  refine ⟨⟨dx, ?_⟩, h.2.1.keep f fun b hb z => ?_, h.2.2.keep f fun b hb z => ?_⟩
  · rw [upd_same, put_above]
  · rw [List.mem_singleton.mp z] at hb
    exact hN.1 (List.mem_append_left _ hb)
  · rw [List.mem_singleton.mp z] at hb
    exact hN.1 (List.mem_append_right _ hb)
end
/-! ### the defs over nodes -/
section
variable {P : Program} {w : World} {K : PySem.W.Frag} {mg : Str → Option Value} {base : Heap}
/-- Node(thing, weight, home) -/
def sp_Node_init (C : Addr) : Sp := fun vs H Q _ => ∃ (p dx : Addr) (i w h : Int), vs = [.ref p, .int i, .int w, .int h] ∧ H p = some (.ins C dx []) ∧ ∀ H', H' p = some (.ins C dx (nf i w h .non .non .non 1)) → Frame [p] H H' → Q .non H'
theorem ok_Node_init (T : Txt K mg) : FnOk P w K mg base CX0 1 T.a_Node_init T.d_Node_init ["self", "thing", "weight", "home"] (sp_Node_init T.c_Node) := by
  refine T.F_Node_init.ok sc_Node_init (fun vs H Q E h => ?_) (fun cdv A outer s H vs Q E hr h => ?_)
  · obtain ⟨p, dx, i, w, h, rfl, _⟩ := h
    rfl
  · obtain ⟨p, dx, i, w, h, rfl, hp, k⟩ := h
    refine ⟨_, (pss_cons (ps_fld (pv 0) (pv 1) rfl)
  (pss_cons (ps_fld (pv 0) (pv 2) rfl)
  (pss_cons (ps_fld (pv 0) (pv 3) rfl)
  (pss_cons (ps_fld (pv 0) pe_non rfl)
  (pss_cons (ps_fld (pv 0) pe_non rfl)
  (pss_cons (ps_fld (pv 0) pe_non rfl)
  (pss_one (ps_fld (pv 0) pe_int rfl)))))))), ?_⟩
    have l : ∀ (f : Str) (v : V) {fs : List (Str × V)} {n : Nat}, fs.length ≤ n → (putF f v fs).length ≤ n + 1 := fun f v fs n h => Nat.le_trans (length_putF f v fs) (Nat.succ_le_succ h)
    have l0 : ([] : List (Str × V)).length ≤ 0 := Nat.le_refl _
    have l1 := l ("thing" : Str) (.int i) l0
    have l2 := l "weight" (.int w) l1
    have l3 := l "home" (.int h) l2
    have l4 := l "above" .non l3
    have l5 := l "left" .non l4
    have l6 := l "right" .non l5
    refine ⟨_, rfl, _, rfl, p, T.c_Node, dx, _, rfl, hp, T.cl_Node, T.n_Node_thing, Nat.lt_of_le_of_lt l0 (by decide), ?_⟩
    refine ⟨_, rfl, _, rfl, p, T.c_Node, dx, _, rfl, upd_same, T.cl_Node, T.n_Node_weight, Nat.lt_of_le_of_lt l1 (by decide), ?_⟩
    refine ⟨_, rfl, _, rfl, p, T.c_Node, dx, _, rfl, upd_same, T.cl_Node, T.n_Node_home, Nat.lt_of_le_of_lt l2 (by decide), ?_⟩
    refine ⟨_, rfl, p, T.c_Node, dx, _, rfl, upd_same, T.cl_Node, T.n_Node_above, Nat.lt_of_le_of_lt l3 (by decide), ?_⟩
    refine ⟨_, rfl, p, T.c_Node, dx, _, rfl, upd_same, T.cl_Node, T.n_Node_left, Nat.lt_of_le_of_lt l4 (by decide), ?_⟩
    refine ⟨_, rfl, p, T.c_Node, dx, _, rfl, upd_same, T.cl_Node, T.n_Node_right, Nat.lt_of_le_of_lt l5 (by decide), ?_⟩
    refine ⟨_, rfl, p, T.c_Node, dx, _, rfl, upd_same, T.cl_Node, T.n_Node_run, Nat.lt_of_le_of_lt l6 (by decide), ?_⟩
    refine k _ (upd_same.trans (congrArg (fun q => some (HO.ins T.c_Node dx q)) nf_new)) ?_
    have m : p ∈ [p] := List.mem_singleton.mpr rfl
    exact ((((((Frame.wr m).trans (Frame.wr m)).trans (Frame.wr m)).trans (Frame.wr m)).trans (Frame.wr m)).trans (Frame.wr m)).trans (Frame.wr m)
theorem lex_lt (m n : Nd) : HT.lexLt [m.w, (m.i : Int)] [n.w, (n.i : Int)] = decide (lt m n) := by
  rw [HT.lexLt_cons, HT.lexLt_cons, HT.lexLt_nil_nil]
  unfold lt
  by_cases c : m.w = n.w
  · rw [if_pos c]
    by_cases c2 : (m.i : Int) = (n.i : Int)
    · rw [if_pos c2]
      exact (decide_eq_false (by omega)).symm
    · rw [if_neg c2]
      exact decide_eq_decide.mpr (by omega)
  · rw [if_neg c]
    exact decide_eq_decide.mpr (by omega)
/-- lesser(one, other) -/
def sp_lesser (C : Addr) : Sp := fun vs H Q _ => ∃ (m n : Nd) (x1 x2 x3 y1 y2 y3 : V), vs = [.ref m.a, .ref n.a] ∧ NodeAt C H m x1 x2 x3 ∧ NodeAt C H n y1 y2 y3 ∧ ∀ H', Same H H' → Q (.bl (decide (lt m n))) H'
theorem ok_lesser (T : Txt K mg) : FnOk P w K mg base CX0 1 T.a_lesser T.d_lesser ["one", "other"] (sp_lesser T.c_Node) := by
  refine T.F_lesser.ok sc_lesser (fun vs H Q E h => ?_) (fun cdv A outer s H vs Q E hr h => ?_)
  · obtain ⟨m, n, x1, x2, x3, y1, y2, y3, rfl, _⟩ := h
    rfl
  · obtain ⟨m, n, x1, x2, x3, y1, y2, y3, rfl, ⟨d1, h1⟩, ⟨d2, h2⟩, k⟩ := h
    refine ⟨_, (pss_one (ps_ret (pe_cmpR (op_ltT hr.units0) (pe_tup (pa_cons (pe_fld (pv 0) rfl) (pa_cons (pe_fld (pv 0) rfl) pa_nil))) (pe_tup (pa_cons (pe_fld (pv 1) rfl) (pa_cons (pe_fld (pv 1) rfl) pa_nil))) (nomark _)))), ?_⟩
    refine ⟨_, rfl, m.a, T.c_Node, d1, _, _, rfl, h1, T.cl_Node, T.n_Node_weight, nf_weight, _, rfl, m.a, T.c_Node, d1, _, _, rfl, h1, T.cl_Node, T.n_Node_thing, nf_thing, (by show 2 ≤ sizeLine; decide), fun p hp => ?_⟩
    have s1 := same_new (o := .tup [.int m.w, .int m.i]) hp
    have h3 := s1 _ _ h2
    refine ⟨_, rfl, n.a, T.c_Node, d2, _, _, rfl, h3, T.cl_Node, T.n_Node_weight, nf_weight, _, rfl, n.a, T.c_Node, d2, _, _, rfl, h3, T.cl_Node, T.n_Node_thing, nf_thing, (by show 2 ≤ sizeLine; decide), fun q hq => ?_⟩
    have s2 := same_new (o := .tup [.int n.w, .int n.i]) hq
    refine ⟨p, q, [m.w, (m.i : Int)], [n.w, (n.i : Int)], rfl, rfl, SqT.of (s2 _ _ upd_same), SqT.of upd_same, ?_⟩
    rw [lex_lt]
    exact k _ (s1.trans s2)
/-- run_of(top) -/
def sp_run_of (C : Addr) : Sp := fun vs H Q _ => ∃ (t : Tre) (ab : V), vs = [ref t] ∧ TAt C H t ab ∧ Q (.int t.rk) H
theorem ok_run_of (T : Txt K mg) : FnOk P w K mg base CX0 1 T.a_run_of T.d_run_of ["top"] (sp_run_of T.c_Node) := by
  refine T.F_run_of.ok sc_run_of (fun vs H Q E h => ?_) (fun cdv A outer s H vs Q E hr h => ?_)
  · obtain ⟨t, ab, rfl, _⟩ := h
    rfl
  · obtain ⟨t, ab, rfl, ht, k⟩ := h
    refine ⟨_, (pss_cons (ps_if (pt_cmpR op_isN (pv 0) pe_non (nomark _))
  (pss_one (ps_ret pe_int))
  pss_nil)
  (pss_one (ps_ret (pe_fld (pv 0) rfl)))), ?_⟩
    cases t with
    | nil => exact ⟨_, rfl, rfl, _, rfl, t_yes rfl k⟩
    | nd n l r =>
      obtain ⟨⟨d, e⟩, _⟩ := ht
      exact ⟨_, rfl, rfl, _, rfl, t_no (by intro z; cases z) ⟨_, rfl, n.a, T.c_Node, d, _, _, rfl, e, T.cl_Node, T.n_Node_run, nf_run, k⟩⟩
/-- thing_of(top) -/
def sp_thing_of (C : Addr) : Sp := fun vs H Q _ => ∃ (t : Tre) (ab : V), vs = [ref t] ∧ TAt C H t ab ∧ Q (thV t) H
theorem ok_thing_of (T : Txt K mg) : FnOk P w K mg base CX0 1 T.a_thing_of T.d_thing_of ["top"] (sp_thing_of T.c_Node) := by
  refine T.F_thing_of.ok sc_thing_of (fun vs H Q E h => ?_) (fun cdv A outer s H vs Q E hr h => ?_)
  · obtain ⟨t, ab, rfl, _⟩ := h
    rfl
  · obtain ⟨t, ab, rfl, ht, k⟩ := h
    refine ⟨_, (pss_cons (ps_if (pt_cmpR op_isN (pv 0) pe_non (nomark _))
  (pss_one (ps_ret pe_non))
  pss_nil)
  (pss_one (ps_ret (pe_fld (pv 0) rfl)))), ?_⟩
    cases t with
    | nil => exact ⟨_, rfl, rfl, _, rfl, t_yes rfl k⟩
    | nd n l r =>
      obtain ⟨⟨d, e⟩, _⟩ := ht
      exact ⟨_, rfl, rfl, _, rfl, t_no (by intro z; cases z) ⟨_, rfl, n.a, T.c_Node, d, _, _, rfl, e, T.cl_Node, T.n_Node_thing, nf_thing, k⟩⟩
/-- settle(node) -/
def sp_settle (C : Addr) : Sp := fun vs H Q _ => ∃ (n : Nd) (l r : Tre) (ab : V), vs = [.ref n.a] ∧ TAt C H (.nd n l r) ab ∧ n.a ∉ addrs l ∧ n.a ∉ addrs r ∧ ∀ H', TAt C H' (mk n l r) ab → Frame [n.a] H H' → Q .non H'
theorem ok_settle (T : Txt K mg) : FnOk P w K mg base CX0 2 T.a_settle T.d_settle ["node"] (sp_settle T.c_Node) := by
  have G_run_of : FnOk P w K mg base CX0 1 _ _ _ _ := ok_run_of T
  refine T.F_settle.ok sc_settle (fun vs H Q E h => ?_) (fun cdv A outer s H vs Q E hr h => ?_)
  · obtain ⟨n, l, r, ab, rfl, _⟩ := h
    rfl
  · obtain ⟨n, l, r, ab, rfl, ⟨⟨d, e⟩, hl, hr'⟩, nl, nr, k⟩ := h
    have m : n.a ∈ [n.a] := List.mem_singleton.mpr rfl
    have out : ∀ {t : Tre}, n.a ∉ addrs t → ∀ b ∈ addrs t, b ∉ [n.a] := fun h b hb z => h (by rw [← List.mem_singleton.mp z]; exact hb)
    refine ⟨_, (pss_cons (ps_if (pt_cmpR op_gt (pe_call G_run_of hr rfl T.g_run_of T.F_run_of.kp T.b_run_of .nil pass0 (pa_cons (pe_fld (pv 0) rfl) pa_nil)) (pe_call G_run_of hr rfl T.g_run_of T.F_run_of.kp T.b_run_of .nil pass0 (pa_cons (pe_fld (pv 0) rfl) pa_nil)) (nomark _))
  (pss_one (ps_asg (pe_tup (pa_cons (pe_fld (pv 0) rfl) (pa_cons (pe_fld (pv 0) rfl) pa_nil))) (pg_tup (by rfl) (pgs_cons (pg_fld (pv 0)) (pgs_cons (pg_fld (pv 0)) pgs_nil)))))
  pss_nil)
  (pss_one (ps_fld (pv 0) (pe_op op_add (pe_call G_run_of hr rfl T.g_run_of T.F_run_of.kp T.b_run_of .nil pass0 (pa_cons (pe_fld (pv 0) rfl) pa_nil)) pe_int) rfl))), ?_⟩
    refine ⟨_, rfl, n.a, T.c_Node, d, _, _, rfl, e, T.cl_Node, T.n_Node_right, nf_right, r, _, rfl, hr', _, rfl, n.a, T.c_Node, d, _, _, rfl, e, T.cl_Node, T.n_Node_left, nf_left, l, _, rfl, hl, _, _, rfl, rfl, _, rfl, t_2 (fun c => ?_) (fun c => ?_)⟩
    · -- the sides change
      have c' : l.rk < r.rk := by omega
      have em : mk n l r = .nd { n with k := l.rk + 1 } r l := by
        unfold mk
        rw [if_pos c']
      rw [em] at k
      refine ⟨_, rfl, n.a, T.c_Node, d, _, _, rfl, e, T.cl_Node, T.n_Node_right, nf_right, _, rfl, n.a, T.c_Node, d, _, _, rfl, e, T.cl_Node, T.n_Node_left, nf_left, (by show 2 ≤ sizeLine; decide), fun p hp => ?_⟩
      have s1 := same_new (o := .tup [ref r, ref l]) hp
      refine ⟨p, [ref r, ref l], rfl, SqT.of upd_same, rfl, _, _, rfl, _, rfl, n.a, T.c_Node, d, _, rfl, s1 _ _ e, T.cl_Node, T.n_Node_left, nf_len, ?_⟩
      rw [put_left]
      refine ⟨_, _, rfl, _, rfl, n.a, T.c_Node, d, _, rfl, upd_same, T.cl_Node, T.n_Node_right, nf_len, rfl, ?_⟩
      rw [put_right]
      have f1 : Frame [n.a] H (upd (upd (upd H p (.tup [ref r, ref l])) n.a (.ins T.c_Node d (nf n.i n.w n.h ab (ref r) (ref r) n.k))) n.a (.ins T.c_Node d (nf n.i n.w n.h ab (ref r) (ref l) n.k))) := ((Frame.new hp).trans (Frame.wr m)).trans (Frame.wr m)
      refine ⟨_, rfl, n.a, T.c_Node, d, _, _, rfl, upd_same, T.cl_Node, T.n_Node_right, nf_right, l, _, rfl, hl.keep f1 (out nl), _, _, rfl, rfl, _, rfl, n.a, T.c_Node, d, _, rfl, upd_same, T.cl_Node, T.n_Node_run, nf_len, ?_⟩
      rw [put_run]
      refine k _ ⟨⟨d, upd_same⟩, ?_, ?_⟩ (f1.trans (Frame.wr m))
      · exact hr'.keep (f1.trans (Frame.wr m)) (out nr)
      · exact hl.keep (f1.trans (Frame.wr m)) (out nl)
    · have c' : ¬ l.rk < r.rk := by omega
      have em : mk n l r = .nd { n with k := r.rk + 1 } l r := by
        unfold mk
        rw [if_neg c']
      rw [em] at k
      refine ⟨_, rfl, n.a, T.c_Node, d, _, _, rfl, e, T.cl_Node, T.n_Node_right, nf_right, r, _, rfl, hr', _, _, rfl, rfl, _, rfl, n.a, T.c_Node, d, _, rfl, e, T.cl_Node, T.n_Node_run, nf_len, ?_⟩
      rw [put_run]
      exact k _ ⟨⟨d, upd_same⟩, hl.keep (Frame.wr m) (out nl), hr'.keep (Frame.wr m) (out nr)⟩ (Frame.wr m)
end
/-! ### joining -/
section
variable {P : Program} {w : World} {K : PySem.W.Frag} {mg : Str → Option Value} {base : Heap}
theorem nodup_app {l m : List Addr} (h : (l ++ m).Nodup) : l.Nodup ∧ m.Nodup ∧ ∀ b ∈ l, b ∉ m := by
  obtain ⟨h1, h2, h3⟩ := List.nodup_append.mp h
  exact ⟨h1, h2, fun b hb z => h3 b hb b z rfl⟩
/-- meet(one, other), d at least the length of both right ways -/
def sp_meet (C : Addr) (d : Nat) : Sp := fun vs H Q _ => ∃ (s t : Tre) (x y : V), vs = [ref s, ref t] ∧ TAt C H s x ∧ TAt C H t y ∧ (addrs s ++ addrs t).Nodup ∧ s.spine + t.spine ≤ d ∧
  ∀ (H' : Hp) (p : Addr) (z : V), TAt C H' (join s t).1 z → H p = none → H' p = some (.tup [ref (join s t).1, .int (join s t).2]) → Frame (addrs s ++ addrs t) H H' → Q (.ref p) H'
theorem ok_meet (T : Txt K mg) : ∀ d : Nat, FnOk P w K mg base CX0 (d + 3) T.a_meet T.d_meet ["one", "other"] (sp_meet T.c_Node d)
  | 0 => by
    refine T.F_meet.ok sc_meet (fun vs H Q E h => ?_) (fun cdv A outer s H vs Q E hr h => ?_)
    · obtain ⟨s, t, x, y, rfl, _⟩ := h
      rfl
    · obtain ⟨s, t, x, y, rfl, hs, ht, hN, hd, k⟩ := h
      refine ⟨_, pss_cons (ps_if (pt_cmpR op_isN (pv 0) pe_non (nomark _)) (pss_one (ps_ret (pe_tup (pa_cons (pv 1) (pa_cons pe_int pa_nil))))) pss_nil) pss_never, ?_⟩
      cases s with
      | nil =>
        refine ⟨_, rfl, rfl, _, rfl, t_yes rfl ⟨_, rfl, (by show 2 ≤ sizeLine; decide), fun p hp => ?_⟩⟩
        rw [join_nil] at k
        exact k _ p y (ht.same (same_new hp)) hp upd_same (Frame.new hp)
      | nd n l r =>
        simp only [spine] at hd
        omega
  | d + 1 => by
    have G_meet : FnOk P w K mg base CX0 (d + 3) _ _ _ _ := ok_meet T d
    have G_lesser : FnOk P w K mg base CX0 (d + 3) _ _ _ _ := (ok_lesser T).mono (by omega)
    have G_settle : FnOk P w K mg base CX0 (d + 3) _ _ _ _ := (ok_settle T).mono (by omega)
    refine T.F_meet.ok sc_meet (fun vs H Q E h => ?_) (fun cdv A outer s H vs Q E hr h => ?_)
    · obtain ⟨s, t, x, y, rfl, _⟩ := h
      rfl
    · obtain ⟨s, t, x, y, rfl, hs, ht, hN, hd, k⟩ := h
      refine ⟨_, (pss_cons (ps_if (pt_cmpR op_isN (pv 0) pe_non (nomark _))
  (pss_one (ps_ret (pe_tup (pa_cons (pv 1) (pa_cons pe_int pa_nil)))))
  pss_nil)
  (pss_cons (ps_if (pt_cmpR op_isN (pv 1) pe_non (nomark _))
  (pss_one (ps_ret (pe_tup (pa_cons (pv 0) (pa_cons pe_int pa_nil)))))
  pss_nil)
  (C8.pss_cut (ps_if (pt_val (pe_call G_lesser hr rfl T.g_lesser T.F_lesser.kp T.b_lesser .nil pass0 (pa_cons (pv 1) (pa_cons (pv 0) pa_nil))))
  (pss_one (ps_par (by rfl) sc_meet.nd (i := 0) (j := 1) rfl rfl (by decide) rfl rfl (pa_cons (pv 1) (pa_cons (pv 0) pa_nil)) (by rfl)))
  pss_nil)
  (pss_cons (ps_asg (pe_call G_meet hr rfl T.g_meet T.F_meet.kp T.b_meet .nil pass0 (pa_cons (pe_fld (pv 0) rfl) (pa_cons (pv 1) pa_nil))) (pg_tup (by rfl) (pgs_cons (pg_name (i := 2) sc_meet.nd rfl (.inl rfl)) (pgs_cons (pg_name (i := 3) sc_meet.nd rfl (.inl rfl)) pgs_nil))))
  (pss_cons (ps_fld (pv 0) (pv 2) rfl)
  (pss_cons (ps_fld (pv 2) (pv 0) rfl)
  (pss_cons (ps_expr (pe_call G_settle hr rfl T.g_settle T.F_settle.kp T.b_settle .nil pass0 (pa_cons (pv 0) pa_nil)))
  (pss_one (ps_ret (pe_tup (pa_cons (pv 0) (pa_cons (pe_op op_add (pv 3) pe_int) pa_nil)))))))))))), ?_⟩
      cases s with
      | nil =>
        refine ⟨_, rfl, rfl, _, rfl, t_yes rfl ⟨_, rfl, (by show 2 ≤ sizeLine; decide), fun p hp => ?_⟩⟩
        rw [join_nil] at k
        exact k _ p y (ht.same (same_new hp)) hp upd_same (Frame.new hp)
      | nd n l r =>
      refine ⟨_, rfl, rfl, _, rfl, t_no (by intro z; cases z) ?_⟩
      cases t with
      | nil =>
        refine ⟨_, rfl, rfl, _, rfl, t_yes rfl ⟨_, rfl, (by show 2 ≤ sizeLine; decide), fun p hp => ?_⟩⟩
        rw [join_nil2] at k
        exact k _ p x (hs.same (same_new hp)) hp upd_same (Frame.new hp)
      | nd m p q =>
      refine ⟨_, rfl, rfl, _, rfl, t_no (by intro z; cases z) ?_⟩
      -- the lesser top first
      refine ⟨fun σ H1 => Same H H1 ∧ ∃ (n' : Nd) (l' r' t' : Tre) (x' y' : V), σ = [some (.ref n'.a), some (ref t'), none, none] ∧ TAt T.c_Node H1 (.nd n' l' r') x' ∧ TAt T.c_Node H1 t' y' ∧ t' ≠ .nil ∧
        (addrs (.nd n' l' r') ++ addrs t').Perm (addrs (.nd n l r) ++ addrs (.nd m p q)) ∧ r'.spine + t'.spine ≤ d ∧
        (join (.nd n l r) (.nd m p q)) = (mk n' l' (join r' t').1, (join r' t').2 + 1), ?_, ?_⟩
      · refine ⟨_, rfl, _, rfl, m, n, _, _, _, _, _, _, rfl, ht.1, hs.1, fun H1 s1 => ⟨_, rfl, t_2 (fun c => ?_) (fun c => ?_)⟩⟩
        · refine ⟨_, rfl, _, rfl, _, _, rfl, s1, m, p, q, .nd n l r, _, _, rfl, ht.same s1, hs.same s1, (by intro z; cases z), List.perm_append_comm, ?_, ?_⟩
          · simp only [spine] at hd ⊢
            omega
          · rw [join_nd, if_pos c]
        · refine ⟨s1, n, l, r, .nd m p q, _, _, rfl, hs.same s1, ht.same s1, (by intro z; cases z), List.Perm.refl _, ?_, ?_⟩
          · simp only [spine] at hd ⊢
            omega
          · rw [join_nd, if_neg c]
      rintro σ H1 ⟨s1, n', l', r', t', x', y', rfl, ⟨⟨dx, e⟩, hl, hr'⟩, ht', t0, hp, hd', ej⟩
      have hN' := hp.symm.nodup_iff.mp hN
      rw [addrs_nd, List.cons_append, List.nodup_cons, List.append_assoc] at hN'
      obtain ⟨na, hN2⟩ := hN'
      obtain ⟨nl, nrt, dl⟩ := nodup_app hN2
      -- below, meetings = meet(one.right, other)
      refine ⟨_, rfl, n'.a, T.c_Node, dx, _, _, rfl, e, T.cl_Node, T.n_Node_right, nf_right, _, rfl, r', t', _, _, rfl, hr', ht', nrt, hd', fun H2 u z h2 hu hu2 f2 => ?_⟩
      refine ⟨u, _, rfl, SqT.of hu2, rfl, _, _, rfl, _, _, rfl, rfl, ?_⟩
      have na1 : n'.a ∉ addrs r' ++ addrs t' := fun z => na (List.mem_append_right _ z)
      have e2 : H2 n'.a = some (.ins T.c_Node dx (nf n'.i n'.w n'.h x' (ref l') (ref r') n'.k)) := f2 _ _ e na1
      have pb : ∀ b, b ∈ addrs (join r' t').1 ↔ b ∈ addrs r' ++ addrs t' := fun b => (join_addrs r' t').mem_iff
      -- one.right = below
      refine ⟨_, rfl, _, rfl, n'.a, T.c_Node, dx, _, rfl, e2, T.cl_Node, T.n_Node_right, nf_len, ?_⟩
      rw [put_right]
      -- below.above = one
      cases eb : (join r' t').1 with
      | nil =>
        exfalso
        have q1 := (join_addrs r' t').length_eq
        rw [eb, addrs_nil, List.length_append] at q1
        cases t' with
        | nil => exact t0 rfl
        | nd a b c =>
          rw [addrs_nd] at q1
          simp at q1
      | nd b bl br =>
      rw [eb] at h2 pb
      have nb : b.a ≠ n'.a := fun z => na1 (by rw [← z]; exact (pb b.a).mp (by rw [addrs_nd]; exact List.mem_cons_self))
      have na3 : n'.a ∉ addrs (.nd b bl br) := fun z => na1 ((pb _).mp z)
      have f3 : Frame [n'.a] H2 (upd H2 n'.a (.ins T.c_Node dx (nf n'.i n'.w n'.h x' (ref l') (ref (.nd b bl br)) n'.k))) := Frame.wr (List.mem_singleton.mpr rfl)
      have h3 := h2.keep f3 (fun c hc z => na3 (by rw [← List.mem_singleton.mp z]; exact hc))
      obtain ⟨db, e3⟩ := id h3.1
      refine ⟨_, rfl, _, rfl, b.a, T.c_Node, db, _, rfl, e3, T.cl_Node, T.n_Node_above, nf_len, ?_⟩
      have hNb : (addrs (.nd b bl br)).Nodup := by
        rw [← eb]
        exact (join_addrs r' t').symm.nodup_iff.mp nrt
      have h4 := h3.above (x := .ref n'.a) hNb e3
      generalize hH4 : upd (upd H2 n'.a (.ins T.c_Node dx (nf n'.i n'.w n'.h x' (ref l') (ref (.nd b bl br)) n'.k))) b.a (.ins T.c_Node db (putF ("above" : Str) (.ref n'.a) (nf b.i b.w b.h z (ref bl) (ref br) b.k))) = H4 at h4 ⊢
      have f4 : Frame [n'.a, b.a] H2 H4 := by
        rw [← hH4]
        exact (f3.mono fun c hc => by rw [List.mem_singleton.mp hc]; exact List.mem_cons_self).trans (Frame.wr (by simp))
      have e4 : H4 n'.a = some (.ins T.c_Node dx (nf n'.i n'.w n'.h x' (ref l') (ref (.nd b bl br)) n'.k)) := by
        rw [← hH4, upd_ne nb.symm, upd_same]
      have nlb : ∀ c ∈ addrs l', c ∉ [n'.a, b.a] := fun c hc z => by
        rcases List.mem_cons.mp z with z | z
        · rw [z] at hc
          exact na (List.mem_append_left _ hc)
        · rw [List.mem_singleton.mp z] at hc
          exact dl _ hc ((pb b.a).mp (by rw [addrs_nd]; exact List.mem_cons_self))
      have hl2 : TAt T.c_Node H2 l' (.ref n'.a) := hl.keep f2 fun c hc => dl c hc
      -- settle(one)
      refine ⟨_, rfl, n', l', .nd b bl br, x', rfl, ⟨⟨dx, e4⟩, hl2.keep f4 nlb, h4⟩, fun z => na (List.mem_append_left _ z), na3, fun H5 h5 f5 => ?_⟩
      -- return (one, meetings + 1)
      refine ⟨_, rfl, _, rfl, _, _, rfl, rfl, (by show 2 ≤ sizeLine; decide), fun v hv => ?_⟩
      have sv := same_new (o := .tup [.ref n'.a, .int (((join r' t').2 : Int) + 1)]) hv
      have hne : ∀ {a : Addr} {o : HO}, H a = some o → ∃ o', H5 a = some o' := fun {a o} h => by
        have h1 := s1 _ _ h
        by_cases c1 : a ∈ addrs r' ++ addrs t'
        · obtain ⟨dd, ff, hh⟩ := h3.there a ((pb a).mpr c1)
          by_cases c2 : a = n'.a
          · rw [c2] at c1
            exact absurd c1 na1
          · by_cases c3 : a = b.a
            · refine ⟨_, f5 a _ (by rw [c3, ← hH4, upd_same]) (fun z => c2 (List.mem_singleton.mp z))⟩
            · refine ⟨_, f5 a _ (by rw [← hH4, upd_ne c3]; exact hh) (fun z => c2 (List.mem_singleton.mp z))⟩
        · by_cases c2 : a = n'.a
          · rw [c2]
            obtain ⟨dd, ff, hh⟩ := h5.there n'.a (by
              have := (mk_addrs n' l' (.nd b bl br)).mem_iff (a := n'.a)
              exact this.mpr List.mem_cons_self)
            exact ⟨_, hh⟩
          · have c3 : a ≠ b.a := fun z => c1 (by rw [z]; exact (pb b.a).mp (by rw [addrs_nd]; exact List.mem_cons_self))
            exact ⟨_, f5 a _ (f4 a _ (f2 a _ h1 c1) (by simp [c2, c3])) (fun z => c2 (List.mem_singleton.mp z))⟩
      rw [ej, eb] at k
      have er : ref (mk n' l' (.nd b bl br)) = .ref n'.a := by unfold mk; split <;> rfl
      rw [er] at k
      refine k _ v x' (h5.same sv) ?_ ?_ ?_
      · cases c : H v with
        | none => rfl
        | some o =>
          obtain ⟨o', c'⟩ := hne c
          rw [hv] at c'
          cases c'
      · exact upd_same
      · have F2 : Frame (addrs (.nd n l r) ++ addrs (.nd m p q)) H H2 := (Frame.same s1).trans (f2.mono fun c hc => hp.mem_iff.mp (by
          rw [addrs_nd, List.cons_append, List.append_assoc]
          exact List.mem_cons_of_mem _ (List.mem_append_right _ hc)))
        have F4 : Frame (addrs (.nd n l r) ++ addrs (.nd m p q)) H2 H4 := f4.mono fun c hc => hp.mem_iff.mp (by
          rw [addrs_nd, List.cons_append, List.append_assoc]
          rcases List.mem_cons.mp hc with z | z
          · rw [z]
            exact List.mem_cons_self
          · rw [List.mem_singleton.mp z]
            exact List.mem_cons_of_mem _ (List.mem_append_right _ ((pb b.a).mp (by rw [addrs_nd]; exact List.mem_cons_self))))
        have F5 : Frame (addrs (.nd n l r) ++ addrs (.nd m p q)) H4 H5 := f5.mono fun c hc => hp.mem_iff.mp (by
          rw [addrs_nd, List.cons_append, List.append_assoc, List.mem_singleton.mp hc]
          exact List.mem_cons_self)
        exact ((F2.trans F4).trans F5).trans (Frame.same sv)
/-- joined(one, other) -/
def sp_joined (C : Addr) (d : Nat) : Sp := fun vs H Q _ => ∃ (s t : Tre) (x y : V), vs = [ref s, ref t] ∧ TAt C H s x ∧ TAt C H t y ∧ (addrs s ++ addrs t).Nodup ∧ s.spine + t.spine ≤ d ∧
  ∀ (H' : Hp) (p : Addr), TAt C H' (join s t).1 .non → H p = none → H' p = some (.tup [ref (join s t).1, .int (join s t).2]) → Frame (addrs s ++ addrs t) H H' → Q (.ref p) H'
theorem ok_joined (T : Txt K mg) (d : Nat) : FnOk P w K mg base CX0 (d + 4) T.a_joined T.d_joined ["one", "other"] (sp_joined T.c_Node d) := by
  have G_meet : FnOk P w K mg base CX0 (d + 3) _ _ _ _ := ok_meet T d
  refine T.F_joined.ok sc_joined (fun vs H Q E h => ?_) (fun cdv A outer s H vs Q E hr h => ?_)
  · obtain ⟨s, t, x, y, rfl, _⟩ := h
    rfl
  · obtain ⟨s, t, x, y, rfl, hs, ht, hN, hd, k⟩ := h
    refine ⟨_, (pss_cons (ps_asg (pe_call G_meet hr rfl T.g_meet T.F_meet.kp T.b_meet .nil pass0 (pa_cons (pv 0) (pa_cons (pv 1) pa_nil))) (pg_tup (by rfl) (pgs_cons (pg_name (i := 2) sc_joined.nd rfl (.inl rfl)) (pgs_cons (pg_name (i := 3) sc_joined.nd rfl (.inl rfl)) pgs_nil))))
  (pss_cons (ps_if (pt_cmpR op_notN (pv 2) pe_non (nomark _))
  (pss_one (ps_fld (pv 2) pe_non rfl))
  pss_nil)
  (pss_one (ps_ret (pe_tup (pa_cons (pv 2) (pa_cons (pv 3) pa_nil))))))), ?_⟩
    refine ⟨_, rfl, _, rfl, s, t, x, y, rfl, hs, ht, hN, hd, fun H1 u z h1 hu hu1 f1 => ?_⟩
    refine ⟨u, _, rfl, SqT.of hu1, rfl, _, _, rfl, _, _, rfl, rfl, ?_⟩
    have pb := join_addrs s t
    cases eb : (join s t).1 with
    | nil =>
      rw [eb] at k
      refine ⟨_, rfl, rfl, _, rfl, iteF ?_⟩
      refine ⟨_, rfl, _, rfl, (by show 2 ≤ sizeLine; decide), fun v hv => ?_⟩
      refine k _ v trivial ?_ upd_same (f1.trans (Frame.new hv))
      cases c : H v with
      | none => rfl
      | some o =>
        have c2 : v ∉ addrs s ++ addrs t := fun z => by
          have := pb.mem_iff.mpr z
          rw [eb] at this
          cases this
        rw [f1 _ _ c c2] at hv
        cases hv
    | nd b bl br =>
      rw [eb] at h1 pb k
      obtain ⟨db, e1⟩ := id h1.1
      refine ⟨_, rfl, rfl, _, rfl, iteT ?_⟩
      refine ⟨_, rfl, b.a, T.c_Node, db, _, rfl, e1, T.cl_Node, T.n_Node_above, nf_len, ?_⟩
      have h2 := h1.above (x := .non) (pb.symm.nodup_iff.mp hN) e1
      refine ⟨_, rfl, _, rfl, (by show 2 ≤ sizeLine; decide), fun v hv => ?_⟩
      have f2 : Frame (addrs s ++ addrs t) H1 (upd H1 b.a (.ins T.c_Node db (putF ("above" : Str) .non (nf b.i b.w b.h z (ref bl) (ref br) b.k)))) := Frame.wr (pb.mem_iff.mp (by rw [addrs_nd]; exact List.mem_cons_self))
      refine k _ v (h2.same (same_new hv)) ?_ upd_same ((f1.trans f2).trans (Frame.new hv))
      cases c : H v with
      | none => rfl
      | some o =>
        exfalso
        by_cases c2 : v ∈ addrs s ++ addrs t
        · obtain ⟨dd, ff, hh⟩ := h2.there v (pb.mem_iff.mpr c2)
          rw [hv] at hh
          cases hh
        · rw [f2 _ _ (f1 _ _ c c2) c2] at hv
          cases hv
end
/-! ### the things of a tree in a row -/
section
variable {P : Program} {w : World} {K : PySem.W.Frag} {mg : Str → Option Value} {base : Heap}
def refs (l : List Nd) : List V := l.map fun n => .ref n.a
def sizes : List Tre → Nat
  | [] => 0
  | t :: ts => t.size + sizes ts
theorem sizes_app : ∀ a b : List Tre, sizes (a ++ b) = sizes a + sizes b
  | [], b => by
    show sizes b = 0 + sizes b
    omega
  | t :: a, b => by
    show t.size + sizes (a ++ b) = t.size + sizes a + sizes b
    rw [sizes_app a b]
    omega
/-- how long the list at a is -/
def lenAt (H : Hp) (a : Addr) : Nat := match H a with
  | some (.lst xs) => xs.length
  | _ => 0
theorem lenAt_of {H : Hp} {a : Addr} {xs : List V} (h : H a = some (.lst xs)) : lenAt H a = xs.length := by
  unfold lenAt
  rw [h]
/-- in_order(top) -/
def sp_in_order (C : Addr) : Sp := fun vs H Q _ => ∃ (t : Tre) (ab : V), vs = [ref t] ∧ TAt C H t ab ∧ t.size ≤ 90000 ∧ ∀ (H' : Hp) (p : Addr), Same H H' → H p = none → H' p = some (.lst (refs t.nodes)) → Q (.ref p) H'
theorem ok_in_order (T : Txt K mg) : FnOk P w K mg base CX0 1 T.a_in_order T.d_in_order ["top"] (sp_in_order T.c_Node) := by
  refine T.F_in_order.ok sc_in_order (fun vs H Q E h => ?_) (fun cdv A outer s H vs Q E hr h => ?_)
  · obtain ⟨t, ab, rfl, _⟩ := h
    rfl
  · obtain ⟨t, ab, rfl, ht, hsz, k⟩ := h
    refine ⟨_, (pss_cons (ps_set (i := 1) sc_in_order.nd rfl (.inl rfl) (pe_lst pa_nil))
  (pss_cons (ps_set (i := 2) sc_in_order.nd rfl (.inl rfl) (pe_lst (pa_cons (pv 0) pa_nil)))
  (pss_cons (ps_while PassesOwn.never (pt_truth (pv 2) (by intro _; rfl))
  (pss_cons (ps_set (i := 3) sc_in_order.nd rfl (.inl rfl) (pe_bm0 PySem.F.plainAttrs_list PySem.F.slot_list_pop PySem.F.type_list_pop mt_pop (pv 2)))
  (pss_one (ps_if (pt_cmpR op_notN (pv 3) pe_non (nomark _))
  (pss_cons (ps_expr (pe_bm PySem.F.plainAttrs_list PySem.F.slot_list_append PySem.F.type_list_append mt_append (pv 1) (pa_cons (pv 3) pa_nil)))
  (pss_cons (ps_expr (pe_bm PySem.F.plainAttrs_list PySem.F.slot_list_append PySem.F.type_list_append mt_append (pv 2) (pa_cons (pe_fld (pv 3) rfl) pa_nil)))
  (pss_one (ps_expr (pe_bm PySem.F.plainAttrs_list PySem.F.slot_list_append PySem.F.type_list_append mt_append (pv 2) (pa_cons (pe_fld (pv 3) rfl) pa_nil))))))
  pss_nil))))
  (pss_one (ps_ret (pv 1)))))), ?_⟩
    refine ⟨by show 0 ≤ sizeLine; omega, fun p hp => ?_⟩
    refine ⟨_, rfl, by show 1 ≤ sizeLine; decide, fun q hq => ?_⟩
    have hqp : q ≠ p := fun e => by
      rw [e, upd_same] at hq
      cases hq
    have hq0 : H q = none := by
      rw [upd_ne hqp] at hq
      exact hq
    dsimp only [gName]
    refine while_by (fun σ H' => Same H H' ∧ ∃ (ws : List Tre) (ds : List Nd) (v : Option V), σ = [some (ref t), some (.ref p), some (.ref q), v] ∧ H' p = some (.lst (refs ds)) ∧ H' q = some (.lst (ws.map ref)) ∧
        (∀ x ∈ ws, ∃ y, TAt T.c_Node H x y) ∧ ds ++ (ws.reverse.flatMap Tre.nodes) = t.nodes ∧ ws.length + sizes ws ≤ t.size + 1)
      (fun _ H' => 4 * (t.size + 1) + lenAt H' q - 3 * lenAt H' p) ?_ ?_ ?_
    · refine ⟨(same_new hp).trans (same_new hq), [t], [], none, rfl, ?_, upd_same, ?_, ?_, ?_⟩
      · rw [upd_ne hqp.symm, upd_same]
        rfl
      · intro x hx
        rw [List.mem_singleton.mp hx]
        exact ⟨ab, ht⟩
      · show [] ++ (t.nodes ++ []) = t.nodes
        rw [List.append_nil, List.nil_append]
      · show 1 + (t.size + 0) ≤ t.size + 1
        omega
    · rintro σ H' ⟨sm, ws, ds, v, rfl, ep, eq, hw, hds, hlen⟩
      refine ⟨_, rfl, _, .inl ⟨_, SqL.of eq, rfl⟩, ?_⟩
      rcases List.eq_nil_or_concat ws with rfl | ⟨us, x, rfl⟩
      · -- all told
        refine iteF ⟨_, rfl, ?_⟩
        have e : ds = t.nodes := by
          rw [← hds]
          show ds = ds ++ []
          rw [List.append_nil]
        rw [e] at ep
        exact k _ p sm hp ep
      · have hb : (!((us.concat x).map ref).isEmpty) = true := by
          rw [List.concat_eq_append, List.map_append]
          cases us <;> rfl
        rw [hb]
        refine iteT ?_
        rw [List.concat_eq_append] at eq hw hds hlen
        rw [List.map_append] at eq
        -- node = waiting.pop()
        have last : ((us.map ref) ++ [ref x])[((us.map ref) ++ [ref x]).length - 1]? = some (ref x) := by
          rw [List.length_append, List.length_singleton, Nat.add_sub_cancel, List.getElem?_append_right (Nat.le_refl _), Nat.sub_self]
          rfl
        refine ⟨_, rfl, .inl ⟨rfl, _, SqL.of eq⟩, q, _, _, rfl, rfl, eq, last, ?_⟩
        rw [show ([x].map ref : List V) = [ref x] from rfl, List.dropLast_concat]
        have hx : ∃ y, TAt T.c_Node H x y := hw x (List.mem_append_right _ (List.mem_singleton.mpr rfl))
        have sm1 : Same H (upd H' q (.lst (us.map ref))) := fun b o e => by
          rw [upd_ne (ne_of_none e hq0)]
          exact sm b o e
        have ep1 : (upd H' q (.lst (us.map ref))) p = some (.lst (refs ds)) := by
          rw [upd_ne hqp.symm]
          exact ep
        have m0 : 4 * (t.size + 1) + lenAt H' q - 3 * lenAt H' p = 4 * (t.size + 1) + (us.length + 1) - 3 * ds.length := by
          rw [lenAt_of eq, lenAt_of ep]
          unfold refs
          simp only [List.length_append, List.length_map, List.length_singleton]
        have tot : ds.length + sizes us + x.size = t.size := by
          have e := congrArg List.length hds
          rw [List.length_append, List.reverse_append, size_nodes] at e
          have e2 : ∀ l : List Tre, (l.flatMap Tre.nodes).length = sizes l := by
            intro l
            induction l with
            | nil => rfl
            | cons a l ih =>
              rw [List.flatMap_cons, List.length_append, ih, size_nodes]
              rfl
          have e3 : ∀ l : List Tre, sizes l.reverse = sizes l := by
            intro l
            induction l with
            | nil => rfl
            | cons a l ih =>
              rw [List.reverse_cons, sizes_app, ih]
              show sizes l + (a.size + 0) = a.size + sizes l
              omega
          rw [e2, sizes_app, e3] at e
          have e4 : sizes ([x] : List Tre) = x.size := by
            show x.size + 0 = x.size
            omega
          rw [e4] at e
          have e5 : sizes us.reverse = sizes us := e3 us
          omega
        have hlen' : us.length + 1 + (sizes us + x.size) ≤ t.size + 1 := by
          rw [List.length_append, sizes_app] at hlen
          have : sizes [x] = x.size := by
            show x.size + 0 = x.size
            omega
          simp only [List.length_singleton] at hlen
          omega
        rw [List.reverse_append] at hds
        cases x with
        | nil =>
          refine ⟨_, rfl, rfl, _, rfl, iteF ?_⟩
          refine ⟨⟨sm1, us, ds, _, rfl, ep1, upd_same, fun z hz => hw z (List.mem_append_left _ hz), hds, by omega⟩, ?_⟩
          rw [m0, lenAt_of upd_same, lenAt_of ep1]
          unfold refs
          rw [List.length_map, List.length_map]
          omega
        | nd n l r =>
          obtain ⟨y, ⟨⟨dx, e⟩, hl, hr'⟩⟩ := hx
          refine ⟨_, rfl, rfl, _, rfl, iteT ?_⟩
          have np : p ≠ n.a := fun z => by
            rw [← z, hp] at e
            cases e
          have nq : q ≠ n.a := fun z => by
            rw [← z, hq0] at e
            cases e
          have sz0 : (Tre.nd n l r).size = l.size + r.size + 1 := rfl
          -- nodes.append(node)
          refine ⟨_, rfl, .inl ⟨rfl, _, SqL.of ep1⟩, _, rfl, p, _, _, rfl, rfl, ep1, Evl.sz_lt (by unfold refs; rw [List.length_map]; omega), ?_⟩
          have e2 : (upd (upd H' q (.lst (us.map ref))) p (.lst (refs ds ++ [.ref n.a]))) q = some (.lst (us.map ref)) := by
            rw [upd_ne hqp, upd_same]
          have e3 : (upd (upd H' q (.lst (us.map ref))) p (.lst (refs ds ++ [.ref n.a]))) n.a = some (.ins T.c_Node dx (nf n.i n.w n.h y (ref l) (ref r) n.k)) := by
            rw [upd_ne np.symm]
            exact sm1 _ _ e
          -- waiting.append(node.right)
          refine ⟨_, rfl, .inl ⟨rfl, _, SqL.of e2⟩, _, rfl, n.a, T.c_Node, dx, _, _, rfl, e3, T.cl_Node, T.n_Node_right, nf_right, q, _, _, rfl, rfl, e2, Evl.sz_lt (by rw [List.length_map]; omega), ?_⟩
          generalize hH1 : upd (upd (upd H' q (.lst (us.map ref))) p (.lst (refs ds ++ [ref (.nd n l r)]))) q (.lst (us.map ref ++ [ref r])) = H1
          have e4 : H1 q = some (.lst (us.map ref ++ [ref r])) := by
            rw [← hH1, upd_same]
          have e5 : H1 n.a = some (.ins T.c_Node dx (nf n.i n.w n.h y (ref l) (ref r) n.k)) := by
            rw [← hH1, upd_ne nq.symm]
            exact e3
          have e6 : H1 p = some (.lst (refs ds ++ [.ref n.a])) := by
            rw [← hH1, upd_ne hqp.symm, upd_same]
            rfl
          have sm2 : Same H H1 := fun b o hb => by
            rw [← hH1, upd_ne (ne_of_none hb hq0), upd_ne (ne_of_none hb hp)]
            exact sm1 b o hb
          -- waiting.append(node.left)
          refine ⟨_, rfl, .inl ⟨rfl, _, SqL.of e4⟩, _, rfl, n.a, T.c_Node, dx, _, _, rfl, e5, T.cl_Node, T.n_Node_left, nf_left, q, _, _, rfl, rfl, e4, Evl.sz_lt (by rw [List.length_append, List.length_map, List.length_singleton]; omega), ?_⟩
          have e7 : (upd H1 q (.lst (us.map ref ++ [ref r] ++ [ref l]))) p = some (.lst (refs ds ++ [.ref n.a])) := by
            rw [upd_ne hqp.symm]
            exact e6
          refine ⟨⟨fun b o hb => ?_, us ++ [r, l], ds ++ [n], _, rfl, ?_, ?_, fun z hz => ?_, ?_, ?_⟩, ?_⟩
          · rw [upd_ne (ne_of_none hb hq0)]
            exact sm2 b o hb
          · rw [e7]
            unfold refs
            rw [List.map_append]
            rfl
          · rw [upd_same, List.map_append, List.append_assoc]
            rfl
          · rcases List.mem_append.mp hz with z1 | z1
            · exact hw z (List.mem_append_left _ z1)
            · rcases List.mem_cons.mp z1 with z2 | z2
              · rw [z2]
                exact ⟨_, hr'⟩
              · rw [List.mem_singleton.mp z2]
                exact ⟨_, hl⟩
          · rw [← hds, List.reverse_append]
            show ds ++ [n] ++ (l.nodes ++ (r.nodes ++ us.reverse.flatMap Tre.nodes)) = ds ++ ((n :: (l.nodes ++ r.nodes)) ++ us.reverse.flatMap Tre.nodes)
            simp only [List.append_assoc, List.cons_append, List.nil_append]
          · rw [List.length_append, sizes_app]
            show us.length + 2 + (sizes us + (r.size + (l.size + 0))) ≤ t.size + 1
            omega
          · rw [m0, lenAt_of upd_same, lenAt_of e7]
            unfold refs
            simp only [List.length_append, List.length_map, List.length_singleton]
            omega
    · rintro σ H' Q1 Q2 hq2 ⟨v, e, b, e2, q2⟩
      exact ⟨v, e, b, e2, hq2 _ _ q2⟩
end
/-! ### a place in a tree, in memory; taking it out -/
namespace Tre
def abv : List Up → V
  | [] => .non
  | f :: _ => .ref f.n.a
def upAddrs (fs : List Up) : List Addr := (upDats fs).map Dat.a
theorem upAddrs_cons (f : Up) (fs : List Up) : upAddrs (f :: fs) = f.n.a :: (addrs f.sib ++ upAddrs fs) := by
  unfold upAddrs addrs
  show (f.n.dat :: (dats f.sib ++ upDats fs)).map Dat.a = _
  rw [List.map_cons, List.map_append]
  rfl
theorem plug_addrs (fs : List Up) (t : Tre) : (addrs (plug t fs)).Perm (addrs t ++ upAddrs fs) := by
  unfold addrs upAddrs
  rw [← List.map_append]
  exact (plug_dats fs t).map Dat.a
theorem mk1_addrs (f : Up) (t : Tre) : (addrs (mk1 f t)).Perm (addrs t ++ (f.n.a :: addrs f.sib)) := by
  have h := (mk1_dats f t).map Dat.a
  rw [List.map_append, List.map_cons] at h
  exact h
theorem ref_put1 (f : Up) (t : Tre) : ref (put1 f t) = .ref f.n.a := by
  unfold put1
  split <;> rfl
theorem ref_mk (n : Nd) (l r : Tre) : ref (mk n l r) = .ref n.a := by
  unfold mk
  split <;> rfl
theorem ref_mk1 (f : Up) (t : Tre) : ref (mk1 f t) = .ref f.n.a := by
  unfold mk1
  split <;> exact ref_mk _ _ _
theorem ref_plug : ∀ (fs : List Up) (t u : Tre), fs ≠ [] ∨ ref t = ref u → ref (plug t fs) = ref (plug u fs)
  | [], t, u, h => by
    rcases h with h | h
    · exact absurd rfl h
    · exact h
  | f :: fs, t, u, _ => ref_plug fs (put1 f t) (put1 f u) (.inr (by rw [ref_put1, ref_put1]))
theorem ref_climb : ∀ (fs : List Up) (t u : Tre), fs ≠ [] ∨ ref t = ref u → ref (climb t fs).1 = ref (plug u fs)
  | [], t, u, h => by
    rcases h with h | h
    · exact absurd rfl h
    · exact h
  | f :: fs, t, u, _ => by
    have e : ref (mk1 f t) = ref (put1 f u) := by rw [ref_mk1, ref_put1]
    unfold climb
    split
    · exact ref_plug fs (mk1 f t) (put1 f u) (.inr e)
    · exact ref_climb fs (mk1 f t) (put1 f u) (.inr e)
end Tre
def UAt (C : Addr) (H : Hp) : V → List Up → Prop
  | _, [] => True
  | c, f :: fs => NodeAt C H f.n (abv fs) (if f.right = true then ref f.sib else c) (if f.right = true then c else ref f.sib) ∧ TAt C H f.sib (.ref f.n.a) ∧ UAt C H (.ref f.n.a) fs
section
variable {C : Addr} {H H' : Hp} {S : List Addr}
theorem put1_at (f : Up) (fs : List Up) (t : Tre) : TAt C H (put1 f t) (abv fs) ↔ TAt C H t (.ref f.n.a) ∧ NodeAt C H f.n (abv fs) (if f.right = true then ref f.sib else ref t) (if f.right = true then ref t else ref f.sib) ∧ TAt C H f.sib (.ref f.n.a) := by
  unfold put1
  by_cases c : f.right = true
  · rw [if_pos c, if_pos c, if_pos c]
    exact ⟨fun ⟨a, b, d⟩ => ⟨d, a, b⟩, fun ⟨d, a, b⟩ => ⟨a, b, d⟩⟩
  · rw [if_neg c, if_neg c, if_neg c]
    exact ⟨fun ⟨a, b, d⟩ => ⟨b, a, d⟩, fun ⟨b, a, d⟩ => ⟨a, b, d⟩⟩
theorem plug_at : ∀ (fs : List Up) (t : Tre), TAt C H (plug t fs) .non ↔ TAt C H t (abv fs) ∧ UAt C H (ref t) fs
  | [], t => ⟨fun h => ⟨h, trivial⟩, fun h => h.1⟩
  | f :: fs, t => by
    have ih := plug_at fs (put1 f t)
    rw [ref_put1] at ih
    refine ⟨fun h => ?_, fun h => ?_⟩
    · obtain ⟨h1, h2⟩ := ih.mp h
      obtain ⟨a, b, c⟩ := (put1_at f fs t).mp h1
      exact ⟨a, b, c, h2⟩
    · obtain ⟨a, b, c, h2⟩ := h
      exact ih.mpr ⟨(put1_at f fs t).mpr ⟨a, b, c⟩, h2⟩
theorem UAt.keep : ∀ {fs : List Up} {c : V}, UAt C H c fs → Frame S H H' → (∀ b ∈ upAddrs fs, b ∉ S) → UAt C H' c fs
  | [], _, _, _, _ => trivial
  | f :: fs, c, h, fr, hs => by
    rw [upAddrs_cons] at hs
    exact ⟨h.1.keep fr (hs _ List.mem_cons_self), h.2.1.keep fr fun b hb => hs b (List.mem_cons_of_mem _ (List.mem_append_left _ hb)), UAt.keep h.2.2 fr fun b hb => hs b (List.mem_cons_of_mem _ (List.mem_append_right _ hb))⟩
end
section
variable {P : Program} {w : World} {K : PySem.W.Frag} {mg : Str → Option Value} {base : Heap}
/-- cut_out(node) -/
def sp_cut_out (C : Addr) : Sp := fun vs H Q _ => ∃ (n : Nd) (l r : Tre) (f : Up) (fs : List Up), vs = [.ref n.a] ∧ TAt C H (plug (.nd n l r) (f :: fs)) .non ∧ (addrs (plug (.nd n l r) (f :: fs))).Nodup ∧
  ∀ H', TAt C H' (.nd n l r) .non → TAt C H' (climb .nil (f :: fs)).1 .non → Frame (addrs (.nd n l r) ++ upAddrs (f :: fs)) H H' → Q (.int ((climb .nil (f :: fs)).2 : Int)) H'
/-- the word of cut_out's loop -/
def cutW (C : Addr) (H : Hp) (n : Nd) (l r : Tre) (gs : List Up) : Nat → L2.St → Hp → Prop := fun m σ H' => ∃ (t : Tre) (fs : List Up) (c : Nat) (v : Option V), m = fs.length ∧ σ = [some (.ref n.a), some (abv fs), some (.int c), v] ∧
  TAt C H' t (abv fs) ∧ UAt C H' (ref t) fs ∧ TAt C H' (.nd n l r) .non ∧ (addrs t ++ upAddrs fs).Perm (upAddrs gs) ∧ (climb .nil gs).1 = (climb t fs).1 ∧ (climb .nil gs).2 = (climb t fs).2 + c ∧ Frame (addrs (.nd n l r) ++ upAddrs gs) H H'
theorem ok_cut_out (T : Txt K mg) : FnOk P w K mg base CX0 3 T.a_cut_out T.d_cut_out ["node"] (sp_cut_out T.c_Node) := by
  have G_settle : FnOk P w K mg base CX0 2 _ _ _ _ := ok_settle T
  refine T.F_cut_out.ok sc_cut_out (fun vs H Q E h => ?_) (fun cdv A outer s H vs Q E hr h => ?_)
  · obtain ⟨n, l, r, f, fs, rfl, _⟩ := h
    rfl
  · obtain ⟨n, l, r, f, fs, rfl, ht, hN, k⟩ := h
    refine ⟨_, (pss_cons (ps_set (i := 1) sc_cut_out.nd rfl (.inl rfl) (pe_fld (pv 0) rfl))
  (pss_cons (ps_fld (pv 0) pe_non rfl)
  (C8.pss_cut (ps_if (pt_cmpR (op_eqI hr.units0) (pe_fld (pv 1) rfl) (pv 0) (nomark _))
  (pss_one (ps_fld (pv 1) pe_non rfl))
  (pss_one (ps_fld (pv 1) pe_non rfl)))
  (pss_cons (ps_set (i := 2) sc_cut_out.nd rfl (.inl rfl) pe_int)
  (pss_cons (ps_while PassesOwn.never (pt_cmpR op_notN (pv 1) pe_non (nomark _))
  (pss_cons (ps_aug (i := 2) sc_cut_out.nd rfl (.inl rfl) pe_int ip_add)
  (pss_cons (ps_set (i := 3) sc_cut_out.nd rfl (.inl rfl) (pe_fld (pv 1) rfl))
  (pss_cons (ps_expr (pe_call G_settle hr rfl T.g_settle T.F_settle.kp T.b_settle .nil pass0 (pa_cons (pv 1) pa_nil)))
  (pss_cons (ps_if (pt_cmpR op_eq (pe_fld (pv 1) rfl) (pv 3) (nomark _))
  (pss_one (ps_ret (pv 2)))
  pss_nil)
  (pss_one (ps_set (i := 1) sc_cut_out.nd rfl (.inl rfl) (pe_fld (pv 1) rfl))))))))
  (pss_one (ps_ret (pv 2)))))))), ?_⟩
    have hN1 := (plug_addrs (f :: fs) (.nd n l r)).nodup_iff.mp hN
    obtain ⟨h1, h2⟩ := (plug_at (f :: fs) (.nd n l r)).mp ht
    obtain ⟨hNn, hNu, hd⟩ := nodup_app hN1
    obtain ⟨⟨dn, en⟩, _, _⟩ := id h1
    -- above = node.above
    refine ⟨_, rfl, n.a, T.c_Node, dn, _, _, rfl, en, T.cl_Node, T.n_Node_above, nf_above, ?_⟩
    -- node.above = None
    refine ⟨_, rfl, n.a, T.c_Node, dn, _, rfl, en, T.cl_Node, T.n_Node_above, nf_len, ?_⟩
    have h3 := h1.above (x := .non) hNn en
    have f3 : Frame [n.a] H (upd H n.a (.ins T.c_Node dn (putF ("above" : Str) .non (nf n.i n.w n.h (abv (f :: fs)) (ref l) (ref r) n.k)))) := Frame.wr (List.mem_singleton.mpr rfl)
    have na : n.a ∈ addrs (.nd n l r) := by rw [addrs_nd]; exact List.mem_cons_self
    have h4 : UAt T.c_Node (upd H n.a (.ins T.c_Node dn (putF ("above" : Str) .non (nf n.i n.w n.h (abv (f :: fs)) (ref l) (ref r) n.k)))) (.ref n.a) (f :: fs) := UAt.keep (show UAt T.c_Node H (.ref n.a) (f :: fs) from h2) f3 fun b hb z => hd n.a na (by rw [← List.mem_singleton.mp z]; exact hb)
    generalize hH1 : upd H n.a (.ins T.c_Node dn (putF ("above" : Str) .non (nf n.i n.w n.h (abv (f :: fs)) (ref l) (ref r) n.k))) = H1 at h3 f3 h4 ⊢
    obtain ⟨⟨df, ef⟩, h5, h6⟩ := id h4
    obtain ⟨dn3, en3⟩ := id h3.1
    have fa : f.n.a ∈ upAddrs (f :: fs) := by rw [upAddrs_cons]; exact List.mem_cons_self
    have nfa : f.n.a ≠ n.a := fun z => hd n.a na (by rw [← z]; exact fa)
    -- the empty part is left
    refine ⟨fun σ H2 => σ = [some (.ref n.a), some (.ref f.n.a), none, none] ∧ TAt T.c_Node H2 (.nd n l r) .non ∧ UAt T.c_Node H2 .non (f :: fs) ∧ Frame (addrs (.nd n l r) ++ upAddrs (f :: fs)) H H2, ?_, ?_⟩
    · have wr : ∀ (fl : List (Str × V)), fl = nf f.n.i f.n.w f.n.h (abv fs) (if f.right = true then ref f.sib else .non) (if f.right = true then .non else ref f.sib) f.n.k →
          (TAt T.c_Node (upd H1 f.n.a (.ins T.c_Node df fl)) (.nd n l r) .non ∧ UAt T.c_Node (upd H1 f.n.a (.ins T.c_Node df fl)) .non (f :: fs) ∧ Frame (addrs (.nd n l r) ++ upAddrs (f :: fs)) H (upd H1 f.n.a (.ins T.c_Node df fl))) := fun fl efl => by
        have fr : Frame [f.n.a] H1 (upd H1 f.n.a (.ins T.c_Node df fl)) := Frame.wr (List.mem_singleton.mpr rfl)
        have hNu' := hNu
        rw [upAddrs_cons, List.nodup_cons] at hNu'
        refine ⟨h3.keep fr fun b hb z => hd b hb (by rw [List.mem_singleton.mp z]; exact fa), ⟨⟨df, by rw [upd_same, efl]⟩, h5.keep fr fun b hb z => ?_, h6.keep fr fun b hb z => ?_⟩, ?_⟩
        · rw [List.mem_singleton.mp z] at hb
          exact hNu'.1 (List.mem_append_left _ hb)
        · rw [List.mem_singleton.mp z] at hb
          exact hNu'.1 (List.mem_append_right _ hb)
        · exact (f3.mono fun b hb => by rw [List.mem_singleton.mp hb]; exact List.mem_append_left _ na).trans (Frame.wr (List.mem_append_right _ fa))
      by_cases c : f.right = true
      · -- it stood on the right
        rw [if_pos c, if_pos c] at ef wr
        refine ⟨_, rfl, f.n.a, T.c_Node, df, _, _, rfl, ef, T.cl_Node, T.n_Node_left, nf_left, _, rfl, n.a, T.c_Node, dn3, _, rfl, en3, T.pe_Node, ?_, _, rfl, t_no (fun z => ?_) ?_⟩
        · cases es : f.sib with
          | nil => exact .inl rfl
          | nd m p q =>
            rw [es] at h5
            obtain ⟨⟨dm, em⟩, _⟩ := h5
            exact .inr ⟨m.a, dm, _, rfl, em⟩
        · cases es : f.sib with
          | nil =>
            rw [es] at z
            cases z
          | nd m p q =>
            rw [es] at z
            injection z with z
            refine hd n.a na ?_
            rw [upAddrs_cons, es, addrs_nd, z]
            exact List.mem_cons_of_mem _ (List.mem_append_left _ List.mem_cons_self)
        · refine ⟨_, rfl, f.n.a, T.c_Node, df, _, rfl, ef, T.cl_Node, T.n_Node_right, nf_len, ?_⟩
          rw [put_right]
          exact ⟨rfl, wr _ rfl⟩
      · rw [if_neg c, if_neg c] at ef wr
        refine ⟨_, rfl, f.n.a, T.c_Node, df, _, _, rfl, ef, T.cl_Node, T.n_Node_left, nf_left, _, rfl, n.a, T.c_Node, dn3, _, rfl, en3, T.pe_Node, .inr ⟨n.a, dn3, _, rfl, en3⟩, _, rfl, t_yes rfl ?_⟩
        refine ⟨_, rfl, f.n.a, T.c_Node, df, _, rfl, ef, T.cl_Node, T.n_Node_left, nf_len, ?_⟩
        rw [put_left]
        exact ⟨rfl, wr _ rfl⟩
    rintro σ H2 ⟨rfl, hn2, hu2, fr2⟩
    refine ⟨cutW T.c_Node H n l r (f :: fs), ⟨(f :: fs).length, .nil, f :: fs, 0, none, rfl, rfl, trivial, hu2, hn2, List.Perm.refl _, rfl, rfl, fr2⟩, ?_⟩
    rintro m σ H3 ⟨t, gs, c, v, rfl, rfl, t3, u3, n3, p3, e31, e32, fr3⟩
    cases gs with
    | nil =>
      refine ⟨_, rfl, rfl, _, rfl, iteF ⟨_, rfl, ?_⟩⟩
      have e0 : (climb t []).2 = 0 := rfl
      have z := k H3 n3 (by rw [e31]; exact t3) fr3
      rw [e32, e0, Nat.zero_add] at z
      exact z
    | cons g gs =>
      refine ⟨_, rfl, rfl, _, rfl, iteT ⟨fun σ' H' => ∃ m', m' < (g :: gs).length ∧ cutW T.c_Node H n l r (f :: fs) m' σ' H', fun _ _ h => h, ?_⟩⟩
      obtain ⟨⟨dg, eg⟩, hs, hu⟩ := id u3
      have ht1 := (put1_at g gs t).mpr ⟨t3, u3.1, hs⟩
      -- looked_at += 1; run_ahead = above.run
      refine ⟨_, rfl, _, _, rfl, rfl, ?_⟩
      refine ⟨_, rfl, g.n.a, T.c_Node, dg, _, _, rfl, eg, T.cl_Node, T.n_Node_run, nf_run, ?_⟩
      -- settle(above)
      have pN := p3.symm.nodup_iff.mp hNu
      obtain ⟨qN1, qN2, qN3⟩ := nodup_app pN
      rw [upAddrs_cons, List.nodup_cons] at qN2
      have gt : g.n.a ∉ addrs t := fun z => qN3 _ z (by rw [upAddrs_cons]; exact List.mem_cons_self)
      have gsib : g.n.a ∉ addrs g.sib := fun z => qN2.1 (List.mem_append_left _ z)
      have ggs : g.n.a ∉ upAddrs gs := fun z => qN2.1 (List.mem_append_right _ z)
      have gin : g.n.a ∈ upAddrs (f :: fs) := p3.mem_iff.mp (List.mem_append_right _ (by rw [upAddrs_cons]; exact List.mem_cons_self))
      have key : ∃ (l' r' : Tre), put1 g t = .nd g.n l' r' ∧ mk1 g t = mk g.n l' r' ∧ g.n.a ∉ addrs l' ∧ g.n.a ∉ addrs r' := by
        by_cases c : g.right = true
        · exact ⟨g.sib, t, (by unfold put1; rw [if_pos c]), (by unfold mk1; rw [if_pos c]), gsib, gt⟩
        · exact ⟨t, g.sib, (by unfold put1; rw [if_neg c]), (by unfold mk1; rw [if_neg c]), gt, gsib⟩
      obtain ⟨l', r', e1, e2, n1, n2⟩ := key
      refine ⟨_, rfl, g.n, l', r', abv gs, rfl, (by rw [← e1]; exact ht1), n1, n2, fun H4 t4 f4 => ?_⟩
      rw [← e2] at t4
      have u4 : UAt T.c_Node H4 (ref (mk1 g t)) gs := by
        rw [ref_mk1]
        exact hu.keep f4 fun b hb z => ggs (by rw [← List.mem_singleton.mp z]; exact hb)
      have n4 : TAt T.c_Node H4 (.nd n l r) .non := n3.keep f4 fun b hb z => hd b hb (by rw [List.mem_singleton.mp z]; exact gin)
      have fr4 : Frame (addrs (.nd n l r) ++ upAddrs (f :: fs)) H H4 := fr3.trans (f4.mono fun b hb => by rw [List.mem_singleton.mp hb]; exact List.mem_append_right _ gin)
      -- the run
      cases em : mk1 g t with
      | nil =>
        have := ref_mk1 g t
        rw [em] at this
        cases this
      | nd b bl br =>
      have eb : b.a = g.n.a := by
        have := ref_mk1 g t
        rw [em] at this
        injection this
      rw [em] at t4 u4
      obtain ⟨⟨db, ebb⟩, _, _⟩ := id t4
      rw [eb] at ebb
      have erk : (mk1 g t).rk = b.k := by rw [em]; rfl
      refine ⟨_, rfl, g.n.a, T.c_Node, db, _, _, rfl, ebb, T.cl_Node, T.n_Node_run, nf_run, _, rfl, rfl, _, rfl, t_2 (fun c5 => ?_) (fun c5 => ?_)⟩
      · -- it stays: the rest stands
        have c6 : (mk1 g t).rk = g.n.k := by
          rw [erk]
          have := V.int.inj c5
          omega
        have ec : climb t (g :: gs) = (plug (mk1 g t) gs, 1) := by
          show (if (mk1 g t).rk = g.n.k then _ else _) = _
          rw [if_pos c6]
        refine ⟨_, rfl, ?_⟩
        rw [ec] at e31 e32
        have z := k H4 n4 (by rw [e31, em]; exact (plug_at gs _).mpr ⟨t4, u4⟩) fr4
        rw [e32] at z
        have e7 : (((plug (mk1 g t) gs, 1) : Tre × Nat).2 + c : Nat) = c + 1 := Nat.add_comm 1 c
        rw [e7] at z
        exact z
      · have c6 : ¬ (mk1 g t).rk = g.n.k := by
          rw [erk]
          intro z
          exact c5 (by rw [z])
        have ec : climb t (g :: gs) = ((climb (mk1 g t) gs).1, (climb (mk1 g t) gs).2 + 1) := by
          show (if (mk1 g t).rk = g.n.k then _ else _) = _
          rw [if_neg c6]
        -- above = above.above
        refine ⟨_, rfl, g.n.a, T.c_Node, db, _, _, rfl, ebb, T.cl_Node, T.n_Node_above, nf_above, ?_⟩
        rw [ec] at e31 e32
        refine ⟨gs.length, Nat.lt_succ_self _, mk1 g t, gs, c + 1, _, rfl, rfl, by rw [em]; exact t4, by rw [em]; exact u4, n4, ?_, e31, ?_, fr4⟩
        · refine List.Perm.trans ?_ p3
          rw [upAddrs_cons]
          refine ((mk1_addrs g t).append_right _).trans ?_
          rw [List.append_assoc, List.cons_append]
        · rw [e32]
          show (climb (mk1 g t) gs).2 + 1 + c = _
          omega
end
/-! ### the field's state, plainly -/
/-- the trees by heap; by thing its node, or None; the work -/
structure Fs where
  ts : List Tre
  ns : List V
  wk : Int
/-- what lies where: of each thing its address, number, weight, heap -/
structure Good (S : Fs) : Prop where
  len : S.ns.length ≤ 1000
  ho : ∀ t ∈ S.ts, HO t
  lo : ∀ t ∈ S.ts, LO t
  home : ∀ (j : Nat) (t : Tre), S.ts[j]? = some t → ∀ d ∈ dats t, d.h = j ∧ S.ns[d.i]? = some (.ref d.a)
  back : ∀ (i : Nat) (a : Addr), S.ns[i]? = some (.ref a) → ∃ (j : Nat) (t : Tre) (d : Dat), S.ts[j]? = some t ∧ d ∈ dats t ∧ d.i = i ∧ d.a = a
  ent : ∀ v ∈ S.ns, v = .non ∨ ∃ a, v = .ref a
  nd : (S.ts.flatMap Tre.addrs).Nodup
theorem short_of : ∀ (n : Nat) (l : List Nat), l.Nodup → (∀ x ∈ l, x < n) → l.length ≤ n
  | 0, [], _, _ => Nat.le_refl _
  | 0, x :: l, _, h => absurd (h x List.mem_cons_self) (Nat.not_lt_zero _)
  | n + 1, l, hnd, h => by
    by_cases c : n ∈ l
    · have h1 : (l.erase n).length = l.length - 1 := List.length_erase_of_mem c
      have h2 := short_of n (l.erase n) (hnd.erase n) fun x hx => by
        have hx2 := List.mem_of_mem_erase hx
        have hx3 : x ≠ n := fun z => by
          subst z
          exact (List.Nodup.not_mem_erase hnd) hx
        have := h x hx2
        omega
      have : 0 < l.length := List.length_pos_of_mem c
      omega
    · have := short_of n l hnd fun x hx => by
        have h2 := h x hx
        have h3 : x ≠ n := fun z => c (z ▸ hx)
        omega
      omega
theorem at_split {α : Type} : ∀ {l : List α} {j : Nat} {x : α}, l[j]? = some x → ∃ A B, l = A ++ x :: B ∧ A.length = j
  | [], j, x, h => by simp at h
  | y :: l, 0, x, h => ⟨[], l, by have e : y = x := Option.some.inj h
                                  rw [e]; rfl, rfl⟩
  | y :: l, j + 1, x, h => by
    obtain ⟨A, B, e, hl⟩ := at_split (l := l) (j := j) (x := x) h
    exact ⟨y :: A, B, by rw [e]; rfl, by rw [List.length_cons, hl]⟩
theorem set_split {α : Type} (A B : List α) (x y : α) : (A ++ x :: B).set A.length y = A ++ y :: B := by
  rw [List.set_append_right _ _ (Nat.le_refl _), Nat.sub_self]
  rfl
theorem get_other {α : Type} {A B : List α} {x y z : α} {j : Nat} (h : (A ++ y :: B)[j]? = some z) : (j = A.length ∧ z = y) ∨ (j ≠ A.length ∧ (A ++ x :: B)[j]? = some z) := by
  by_cases c : j = A.length
  · subst c
    rw [List.getElem?_append_right (Nat.le_refl _), Nat.sub_self] at h
    exact .inl ⟨rfl, (Option.some.inj h).symm⟩
  · refine .inr ⟨c, ?_⟩
    by_cases c2 : j < A.length
    · rw [List.getElem?_append_left c2] at h ⊢
      exact h
    · obtain ⟨m, hm⟩ : ∃ m, j - A.length = m + 1 := ⟨j - A.length - 1, by omega⟩
      rw [List.getElem?_append_right (by omega), hm] at h ⊢
      exact h
theorem flat_split {A B : List Tre} {t : Tre} : ((A ++ t :: B).flatMap Tre.addrs).Perm (addrs t ++ (A.flatMap Tre.addrs ++ B.flatMap Tre.addrs)) := by
  rw [List.flatMap_append, List.flatMap_cons]
  refine List.Perm.trans ?_ (List.Perm.append_right _ (List.Perm.refl _))
  rw [← List.append_assoc, ← List.append_assoc]
  exact List.Perm.append_right _ List.perm_append_comm
section
variable {S : Fs} {t : Tre} {j : Nat}
theorem inj_a : ∀ (l : List Dat), (l.map Dat.a).Nodup → ∀ x ∈ l, ∀ y ∈ l, x.a = y.a → x = y
  | [], _, x, hx, _, _, _ => by cases hx
  | z :: l, hn, x, hx, y, hy, exy => by
    rw [List.map_cons, List.nodup_cons] at hn
    rcases List.mem_cons.mp hx with hx | hx
    · rcases List.mem_cons.mp hy with hy | hy
      · rw [hx, hy]
      · exact absurd (by rw [← hx, exy]; exact List.mem_map_of_mem hy) hn.1
    · rcases List.mem_cons.mp hy with hy | hy
      · exact absurd (by rw [← hy, ← exy]; exact List.mem_map_of_mem hx) hn.1
      · exact inj_a l hn.2 x hx y hy exy
/-- one address, one thing -/
theorem Good.oneA (G : Good S) {i j : Nat} {t u : Tre} {d e : Dat} (h1 : S.ts[i]? = some t) (h2 : S.ts[j]? = some u) (hd : d ∈ dats t) (he : e ∈ dats u) (ea : d.a = e.a) : i = j ∧ t = u ∧ d = e := by
  obtain ⟨A, B, eS, hA⟩ := at_split h1
  have hnd := G.nd
  rw [eS] at hnd h2
  have nd2 := flat_split.nodup_iff.mp hnd
  obtain ⟨n1, n2, n3⟩ := List.nodup_append.mp nd2
  have da : d.a ∈ addrs t := List.mem_map_of_mem hd
  rcases get_other (x := t) h2 with ⟨e1, e2⟩ | ⟨e1, e2⟩
  · subst e2
    exact ⟨by omega, rfl, inj_a _ n1 d hd e he ea⟩
  · exfalso
    have hu : e.a ∈ addrs u := List.mem_map_of_mem he
    have hu2 : e.a ∈ A.flatMap Tre.addrs ++ B.flatMap Tre.addrs := by
      by_cases c : j < A.length
      · rw [List.getElem?_append_left c] at e2
        exact List.mem_append_left _ (List.mem_flatMap.mpr ⟨u, List.mem_of_getElem? e2, hu⟩)
      · obtain ⟨m, hm⟩ : ∃ m, j - A.length = m + 1 := ⟨j - A.length - 1, by omega⟩
        rw [List.getElem?_append_right (by omega), hm] at e2
        have e3 : B[m]? = some u := e2
        exact List.mem_append_right _ (List.mem_flatMap.mpr ⟨u, List.mem_of_getElem? e3, hu⟩)
    exact n3 d.a da e.a hu2 ea
/-- one number, one thing -/
theorem Good.one (G : Good S) {i j : Nat} {t u : Tre} {d e : Dat} (h1 : S.ts[i]? = some t) (h2 : S.ts[j]? = some u) (hd : d ∈ dats t) (he : e ∈ dats u) (hi : d.i = e.i) : i = j ∧ t = u ∧ d = e := by
  have a1 := G.home i t h1 d hd
  have a2 := G.home j u h2 e he
  refine G.oneA h1 h2 hd he ?_
  have q := a1.2
  rw [hi, a2.2] at q
  injection q with q
  injection q with q
  exact q.symm
/-- where the row tells a thing of this tree -/
theorem Good.inT (G : Good S) {i : Nat} {a : Addr} (h : S.ns[i]? = some (.ref a)) (hs : S.ts[j]? = some t) (ha : a ∈ addrs t) : ∃ d ∈ dats t, d.i = i ∧ d.a = a := by
  obtain ⟨j', u, d, hu, hd, e1, e2⟩ := G.back i a h
  obtain ⟨e, he, ea⟩ := List.mem_map.mp ha
  obtain ⟨_, q2, q3⟩ := G.oneA hu hs hd he (e2.trans ea.symm)
  exact ⟨d, by rw [q3]; exact he, e1, e2⟩
theorem flat_set {ts : List Tre} {j : Nat} {s t : Tre} (h : ts[j]? = some s) : ((ts.set j t).flatMap Tre.addrs ++ addrs s).Perm (ts.flatMap Tre.addrs ++ addrs t) := by
  obtain ⟨A, B, eS, hA⟩ := at_split h
  subst hA
  rw [eS, set_split]
  refine List.perm_iff_count.mpr fun x => ?_
  simp only [List.flatMap_append, List.flatMap_cons, List.count_append]
  omega
theorem Good.ndI (G : Good S) (h : S.ts[j]? = some t) : ((dats t).map Dat.i).Nodup := by
  obtain ⟨A, B, eS, _⟩ := at_split h
  have nd := G.nd
  rw [eS] at nd
  have n1 : ((dats t).map Dat.a).Nodup := (List.nodup_append.mp (flat_split.nodup_iff.mp nd)).1
  rw [List.Nodup, List.pairwise_map] at n1 ⊢
  refine List.Pairwise.imp_of_mem ?_ n1
  intro x y hx hy hxy e
  exact hxy (by rw [(G.one h h hx hy e).2.2])
theorem Good.size (G : Good S) (h : S.ts[j]? = some t) : t.size ≤ S.ns.length := by
  have h1 := short_of S.ns.length _ (G.ndI h) fun x hx => by
    obtain ⟨d, hd, rfl⟩ := List.mem_map.mp hx
    exact (List.getElem?_eq_some_iff.mp (G.home j t h d hd).2).1
  rw [List.length_map, size_dats] at h1
  exact h1
theorem spine_le (h : LO t) (hs : t.size ≤ 1000) : t.spine ≤ 9 := by
  rw [spine_rk h]
  have h1 := rk_size h
  by_cases c : t.rk ≤ 9
  · exact c
  · have h2 : 2 ^ 10 ≤ 2 ^ t.rk := Nat.pow_le_pow_right (by decide) (by omega)
    have h3 : 2 ^ 10 = 1024 := by decide
    omega
end
/-! ### the deeds -/
def leaf (a : Addr) (i : Nat) (w : Int) (j : Nat) : Tre := .nd ⟨a, i, w, j, 1⟩ .nil .nil
def Fs.put (S : Fs) (j : Nat) (a : Addr) (w : Int) : Fs :=
  ⟨S.ts.set j (join (S.ts.getD j .nil) (leaf a S.ns.length w j)).1, S.ns ++ [.ref a], (join (S.ts.getD j .nil) (leaf a S.ns.length w j)).2⟩
def Fs.take (S : Fs) (j : Nat) (n : Nd) (l r : Tre) : Fs := ⟨S.ts.set j (join l r).1, S.ns.set n.i .non, (join l r).2⟩
namespace Tre
/-- all have the home h -/
def homed (h : Nat) : Tre → Tre
  | nil => nil
  | nd n l r => nd { n with h := h } (homed h l) (homed h r)
theorem homed_dats (h : Nat) : ∀ t : Tre, dats (homed h t) = (dats t).map fun d => { d with h := h }
  | nil => rfl
  | nd n l r => by
    show dats (nd { n with h := h } (homed h l) (homed h r)) = _
    rw [dats_nd, dats_nd, homed_dats h l, homed_dats h r, List.map_cons, List.map_append]
    rfl
theorem homed_addrs (h : Nat) (t : Tre) : addrs (homed h t) = addrs t := by
  unfold addrs
  rw [homed_dats, List.map_map]
  rfl
theorem homed_rk (h : Nat) : ∀ t : Tre, (homed h t).rk = t.rk
  | nil => rfl
  | nd _ _ _ => rfl
theorem homed_LO (h : Nat) : ∀ {t : Tre}, LO t → LO (homed h t)
  | nil, _ => trivial
  | nd n l r, g => ⟨by rw [homed_rk]; exact g.1, by rw [homed_rk, homed_rk]; exact g.2.1, homed_LO h g.2.2.1, homed_LO h g.2.2.2⟩
theorem homed_HO (h : Nat) : ∀ {t : Tre}, HO t → HO (homed h t)
  | nil, _ => trivial
  | nd n l r, g => by
    have lft : ∀ (u : Tre), (∀ d ∈ dats u, dlt n.dat d) → ∀ d ∈ dats (homed h u), dlt ({ n with h := h } : Nd).dat d := fun u hu d hd => by
      rw [homed_dats] at hd
      obtain ⟨e, he, rfl⟩ := List.mem_map.mp hd
      exact hu e he
    exact ⟨lft l g.1, lft r g.2.1, homed_HO h g.2.2.1, homed_HO h g.2.2.2⟩
end Tre
def Fs.pour (S : Fs) (j o : Nat) : Fs :=
  ⟨(S.ts.set o .nil).set j (join (S.ts.getD j .nil) (homed j (S.ts.getD o .nil))).1, S.ns, (join (S.ts.getD j .nil) (homed j (S.ts.getD o .nil))).2⟩
/-- the thing at the place below fs sinks to the weight w -/
def sunk (n : Nd) (l r : Tre) (w : Int) : List Up → Tre × Nat
  | [] => (.nd { n with w := w } l r, 0)
  | f :: fs => if lt { n with w := w } f.n then
      ((join (climb .nil (f :: fs)).1 (.nd { n with w := w } l r)).1, (climb .nil (f :: fs)).2 + (join (climb .nil (f :: fs)).1 (.nd { n with w := w } l r)).2)
    else (plug (.nd { n with w := w } l r) (f :: fs), 0)
def Fs.sink (S : Fs) (j : Nat) (n : Nd) (l r : Tre) (w : Int) (fs : List Up) : Fs := ⟨S.ts.set j (sunk n l r w fs).1, S.ns, (sunk n l r w fs).2⟩
/-- one tree's things told anew, the numbers' row as it may be: what stays good -/
theorem Good.repl {S : Fs} (G : Good S) {j : Nat} {s t : Tre} {ns : List V} {wk : Int} (hj : S.ts[j]? = some s) (hlen : ns.length ≤ 1000) (ht : HO t) (hl : LO t)
    (hh : ∀ d ∈ dats t, d.h = j ∧ ns[d.i]? = some (.ref d.a)) (hnd : (addrs t).Nodup) (hout : ∀ b ∈ addrs t, b ∈ addrs s ∨ b ∉ S.ts.flatMap Tre.addrs)
    (old : ∀ (i : Nat) (a : Addr), S.ns[i]? = some (.ref a) → a ∉ addrs s → ns[i]? = some (.ref a))
    (new : ∀ (i : Nat) (a : Addr), ns[i]? = some (.ref a) → (S.ns[i]? = some (.ref a) ∧ a ∉ addrs s) ∨ ∃ d ∈ dats t, d.i = i ∧ d.a = a) (hent : ∀ v ∈ ns, v = .non ∨ ∃ a, v = .ref a) :
    Good ⟨S.ts.set j t, ns, wk⟩ := by
  obtain ⟨A, B, eS, hA⟩ := at_split hj
  subst hA
  have e1 : S.ts.set A.length t = A ++ t :: B := by rw [eS]; exact set_split A B s t
  have nd := G.nd
  rw [eS] at nd
  have nd2 := flat_split.nodup_iff.mp nd
  obtain ⟨n1, n2, n3⟩ := nodup_app nd2
  have mem : ∀ u ∈ A ++ t :: B, u = t ∨ u ∈ S.ts := fun u hu => by
    rw [eS]
    rcases List.mem_append.mp hu with z | z
    · exact .inr (List.mem_append_left _ z)
    · rcases List.mem_cons.mp z with z | z
      · exact .inl z
      · exact .inr (List.mem_append_right _ (List.mem_cons_of_mem _ z))
  show Good ⟨S.ts.set A.length t, ns, wk⟩
  rw [e1]
  refine ⟨hlen, fun u hu => ?_, fun u hu => ?_, fun i u hu d hd => ?_, fun i a hi => ?_, hent, ?_⟩
  · rcases mem u hu with z | z
    · rw [z]
      exact ht
    · exact G.ho u z
  · rcases mem u hu with z | z
    · rw [z]
      exact hl
    · exact G.lo u z
  · rcases get_other (x := s) hu with ⟨c1, c2⟩ | ⟨c1, c2⟩
    · subst c2
      rw [c1]
      exact hh d hd
    · rw [← eS] at c2
      have h1 := G.home i u c2 d hd
      refine ⟨h1.1, old _ _ h1.2 fun z => ?_⟩
      obtain ⟨e, he, ea⟩ := List.mem_map.mp z
      have h2 := G.home A.length s (by rw [eS, List.getElem?_append_right (Nat.le_refl _), Nat.sub_self]; rfl) e he
      have hu2 : d.a ∈ addrs u := List.mem_map_of_mem hd
      rw [eS] at c2
      refine n3 d.a z ?_
      by_cases c : i < A.length
      · rw [List.getElem?_append_left c] at c2
        exact List.mem_append_left _ (List.mem_flatMap.mpr ⟨u, List.mem_of_getElem? c2, hu2⟩)
      · obtain ⟨m, hm⟩ : ∃ m, i - A.length = m + 1 := ⟨i - A.length - 1, by omega⟩
        rw [List.getElem?_append_right (by omega), hm] at c2
        have e3 : B[m]? = some u := c2
        exact List.mem_append_right _ (List.mem_flatMap.mpr ⟨u, List.mem_of_getElem? e3, hu2⟩)
  · rcases new i a hi with ⟨h1, h2⟩ | ⟨d, hd, e1, e2⟩
    · obtain ⟨i', u, d, hu, hd, e1, e2⟩ := G.back i a h1
      rw [eS] at hu
      rcases get_other (x := t) hu with ⟨c1, c2⟩ | ⟨c1, c2⟩
      · subst c2
        exact absurd (by rw [← e2]; exact List.mem_map_of_mem hd) h2
      · exact ⟨i', u, d, c2, hd, e1, e2⟩
    · exact ⟨A.length, t, d, by rw [List.getElem?_append_right (Nat.le_refl _), Nat.sub_self]; rfl, hd, e1, e2⟩
  · refine flat_split.symm.nodup_iff.mp (List.nodup_append.mpr ⟨hnd, n2, fun x hx y hy exy => ?_⟩)
    subst exy
    rcases hout x hx with z | z
    · exact n3 x z hy
    · rw [eS] at z
      exact z (flat_split.mem_iff.mpr (List.mem_append_right _ hy))
/-! ### the deeds keep the state good -/
theorem get_mem {α : Type} {l : List α} {j : Nat} {x : α} (h : l[j]? = some x) : x ∈ l := List.mem_of_getElem? h
theorem getD_of {l : List Tre} {j : Nat} {s : Tre} (h : l[j]? = some s) : l.getD j .nil = s := by
  simp [List.getD, h]
theorem get_len {α : Type} {l : List α} {j : Nat} {x : α} (h : l[j]? = some x) : j < l.length := (List.getElem?_eq_some_iff.mp h).1
section
variable {S : Fs} {s t : Tre} {j : Nat}
theorem Good.start : Good ⟨[], [], 0⟩ := ⟨Nat.zero_le _, (fun _ h => by cases h), (fun _ h => by cases h), (fun _ _ h => by simp at h), (fun _ _ h => by simp at h), (fun _ h => by cases h), List.Pairwise.nil⟩
theorem Good.heap (G : Good S) : Good ⟨S.ts ++ [Tre.nil], S.ns, S.wk⟩ := by
  have mem : ∀ u ∈ S.ts ++ [Tre.nil], u ∈ S.ts ∨ u = Tre.nil := fun u hu => (List.mem_append.mp hu).imp id List.mem_singleton.mp
  refine ⟨G.len, fun u hu => ?_, fun u hu => ?_, fun i u hu d hd => ?_, fun i a h => ?_, G.ent, ?_⟩
  · rcases mem u hu with z | z
    · exact G.ho u z
    · rw [z]
      trivial
  · rcases mem u hu with z | z
    · exact G.lo u z
    · rw [z]
      trivial
  · have hu' : (S.ts ++ [Tre.nil])[i]? = some u := hu
    by_cases c : i < S.ts.length
    · rw [List.getElem?_append_left c] at hu'
      exact G.home i u hu' d hd
    · rw [List.getElem?_append_right (by omega)] at hu'
      have e : u = .nil := List.mem_singleton.mp (get_mem hu')
      rw [e] at hd
      cases hd
  · obtain ⟨j', u, d, hu, hd, e1, e2⟩ := G.back i a h
    exact ⟨j', u, d, by show (S.ts ++ [Tre.nil])[j']? = some u; rw [List.getElem?_append_left (get_len hu)]; exact hu, hd, e1, e2⟩
  · show ((S.ts ++ [Tre.nil]).flatMap Tre.addrs).Nodup
    rw [List.flatMap_append]
    show (S.ts.flatMap Tre.addrs ++ []).Nodup
    rw [List.append_nil]
    exact G.nd
theorem leaf_dats (a : Addr) (i : Nat) (w : Int) (j : Nat) : dats (leaf a i w j) = [⟨a, i, w, j⟩] := rfl
theorem leaf_LO (a : Addr) (i : Nat) (w : Int) (j : Nat) : LO (leaf a i w j) := ⟨rfl, Nat.le_refl _, trivial, trivial⟩
theorem leaf_HO (a : Addr) (i : Nat) (w : Int) (j : Nat) : HO (leaf a i w j) := ⟨(fun _ h => by cases h), (fun _ h => by cases h), trivial, trivial⟩
theorem Good.put (G : Good S) (hs : S.ts[j]? = some s) (hl : S.ns.length < 1000) {a : Addr} (ha : a ∉ S.ts.flatMap Tre.addrs) (w : Int) : Good (S.put j a w) := by
  have es := getD_of hs
  unfold Fs.put
  rw [es]
  have pm := joinD s (leaf a S.ns.length w j)
  have mem : ∀ d, d ∈ dats (join s (leaf a S.ns.length w j)).1 ↔ d ∈ dats s ∨ d = ⟨a, S.ns.length, w, j⟩ := fun d => by
    rw [pm.mem_iff, List.mem_append, leaf_dats, List.mem_singleton]
  have hi : ∀ d ∈ dats s, d.i < S.ns.length := fun d hd => get_len (G.home j s hs d hd).2
  have sub : ∀ b ∈ addrs s, b ∈ S.ts.flatMap Tre.addrs := fun b hb => List.mem_flatMap.mpr ⟨s, get_mem hs, hb⟩
  refine G.repl hs (by rw [List.length_append, List.length_singleton]; omega) (joinHO (G.ho s (get_mem hs)) (leaf_HO _ _ _ _) ?_) (joinLO (G.lo s (get_mem hs)) (leaf_LO _ _ _ _)) (fun d hd => ?_) ?_ (fun b hb => ?_) (fun i b h _ => ?_) (fun i b h => ?_) (fun v hv => ?_)
  · rw [List.map_append, leaf_dats]
    refine List.nodup_append.mpr ⟨G.ndI hs, by simp, fun x hx y hy e => ?_⟩
    obtain ⟨d, hd, rfl⟩ := List.mem_map.mp hx
    have e2 : y = S.ns.length := List.mem_singleton.mp hy
    have := hi d hd
    omega
  · rcases (mem d).mp hd with z | z
    · have h1 := G.home j s hs d z
      exact ⟨h1.1, by rw [List.getElem?_append_left (hi d z)]; exact h1.2⟩
    · rw [z]
      exact ⟨rfl, by rw [List.getElem?_append_right (Nat.le_refl _), Nat.sub_self]; rfl⟩
  · refine ((pm.map Dat.a).nodup_iff).mpr ?_
    rw [List.map_append, leaf_dats]
    refine List.nodup_append.mpr ⟨?_, by simp, fun x hx y hy e => ?_⟩
    · obtain ⟨A, B, eS, _⟩ := at_split hs
      have hnd := G.nd
      rw [eS] at hnd
      exact (List.nodup_append.mp (flat_split.nodup_iff.mp hnd)).1
    · have e2 : y = a := List.mem_singleton.mp hy
      rw [e, e2] at hx
      exact ha (sub a hx)
  · obtain ⟨d, hd, rfl⟩ := List.mem_map.mp hb
    rcases (mem d).mp hd with z | z
    · exact .inl (List.mem_map_of_mem z)
    · rw [z]
      exact .inr ha
  · rw [List.getElem?_append_left (get_len h)]
    exact h
  · by_cases c : i < S.ns.length
    · rw [List.getElem?_append_left c] at h
      by_cases c2 : b ∈ addrs s
      · obtain ⟨d, hd, e1, e2⟩ := G.inT h hs c2
        exact .inr ⟨d, (mem d).mpr (.inl hd), e1, e2⟩
      · exact .inl ⟨h, c2⟩
    · have hlt := get_len h
      rw [List.length_append, List.length_singleton] at hlt
      have ei : i = S.ns.length := by omega
      rw [ei, List.getElem?_append_right (Nat.le_refl _), Nat.sub_self] at h
      have e3 : V.ref a = V.ref b := Option.some.inj h
      injection e3 with e3
      exact .inr ⟨⟨a, S.ns.length, w, j⟩, (mem _).mpr (.inr rfl), ei.symm, e3⟩
  · rcases List.mem_append.mp hv with z | z
    · exact G.ent v z
    · exact .inr ⟨a, List.mem_singleton.mp z⟩
theorem Good.top (G : Good S) {n : Nd} {l r : Tre} (hs : S.ts[j]? = some (.nd n l r)) : n.h = j ∧ S.ns[n.i]? = some (.ref n.a) := G.home j _ hs n.dat (by rw [dats_nd]; exact List.mem_cons_self)
theorem Good.take (G : Good S) {n : Nd} {l r : Tre} (hs : S.ts[j]? = some (.nd n l r)) : Good (S.take j n l r) := by
  unfold Fs.take
  have pm := joinD l r
  have ho := G.ho _ (get_mem hs)
  have lo := G.lo _ (get_mem hs)
  have hI := G.ndI hs
  rw [dats_nd, List.map_cons, List.nodup_cons] at hI
  have up : ∀ d, d ∈ dats (join l r).1 → d ∈ dats (.nd n l r) ∧ d.i ≠ n.i := fun d hd => by
    have h1 := pm.mem_iff.mp hd
    refine ⟨by rw [dats_nd]; exact List.mem_cons_of_mem _ h1, fun e => hI.1 ?_⟩
    rw [show n.dat.i = n.i from rfl, ← e]
    exact List.mem_map_of_mem h1
  have hA : (Tre.addrs (.nd n l r)).Nodup := by
    obtain ⟨A, B, eS, _⟩ := at_split hs
    have hnd := G.nd
    rw [eS] at hnd
    exact (List.nodup_append.mp (flat_split.nodup_iff.mp hnd)).1
  rw [addrs_nd, List.nodup_cons] at hA
  refine G.repl hs (by rw [List.length_set]; exact G.len) (joinHO ho.2.2.1 ho.2.2.2 hI.2) (joinLO lo.2.2.1 lo.2.2.2) (fun d hd => ?_) ((join_addrs l r).nodup_iff.mpr hA.2) (fun b hb => .inl ?_) (fun i b h hb => ?_) (fun i b h => ?_) (fun v hv => ?_)
  · have h1 := G.home j _ hs d (up d hd).1
    refine ⟨h1.1, ?_⟩
    rw [List.getElem?_set_ne (fun e => (up d hd).2 e.symm)]
    exact h1.2
  · rw [addrs_nd]
    exact List.mem_cons_of_mem _ ((join_addrs l r).mem_iff.mp hb)
  · have ne : n.i ≠ i := fun e => by
      rw [← e, (G.top hs).2] at h
      injection h with h
      injection h with h
      exact hb (by rw [addrs_nd, h]; exact List.mem_cons_self)
    rw [List.getElem?_set_ne ne]
    exact h
  · by_cases c : n.i = i
    · subst c
      rw [List.getElem?_set_self (get_len (G.top hs).2)] at h
      injection h with h
      cases h
    · rw [List.getElem?_set_ne c] at h
      by_cases c2 : b ∈ addrs (.nd n l r)
      · obtain ⟨d, hd, e1, e2⟩ := G.inT h hs c2
        rw [dats_nd] at hd
        rcases List.mem_cons.mp hd with z | z
        · exact absurd (by rw [← e1, z]; rfl) c
        · exact .inr ⟨d, pm.mem_iff.mpr z, e1, e2⟩
      · exact .inl ⟨h, c2⟩
  · rcases List.mem_or_eq_of_mem_set hv with z | z
    · exact G.ent v z
    · exact .inl z
theorem Good.pour (G : Good S) {o : Nat} {u : Tre} (hs : S.ts[j]? = some s) (ht : S.ts[o]? = some u) (hne : j ≠ o) : Good (S.pour j o) := by
  unfold Fs.pour
  rw [getD_of hs, getD_of ht]
  have pm := joinD s (homed j u)
  have mem : ∀ d, d ∈ dats (join s (homed j u)).1 ↔ d ∈ dats s ∨ ∃ e ∈ dats u, d = { e with h := (j : Int) } := fun d => by
    rw [pm.mem_iff, List.mem_append, homed_dats, List.mem_map]
    exact ⟨fun h => h.imp id fun ⟨e, he, q⟩ => ⟨e, he, q.symm⟩, fun h => h.imp id fun ⟨e, he, q⟩ => ⟨e, he, q.symm⟩⟩
  have hs1 : (S.ts.set o .nil)[j]? = some s := by
    rw [List.getElem?_set_ne (Ne.symm hne)]
    exact hs
  have idx : ∀ (i : Nat) (v : Tre), ((S.ts.set o .nil).set j (join s (homed j u)).1)[i]? = some v → (i = j ∧ v = (join s (homed j u)).1) ∨ (i = o ∧ v = .nil) ∨ (i ≠ j ∧ i ≠ o ∧ S.ts[i]? = some v) := fun i v h => by
    by_cases c : i = j
    · subst c
      rw [List.getElem?_set_self (get_len hs1)] at h
      exact .inl ⟨rfl, (Option.some.inj h).symm⟩
    · rw [List.getElem?_set_ne (Ne.symm c)] at h
      by_cases c2 : i = o
      · subst c2
        rw [List.getElem?_set_self (get_len ht)] at h
        exact .inr (.inl ⟨rfl, (Option.some.inj h).symm⟩)
      · rw [List.getElem?_set_ne (Ne.symm c2)] at h
        exact .inr (.inr ⟨c, c2, h⟩)
  have mem2 : ∀ v, v ∈ (S.ts.set o .nil).set j (join s (homed j u)).1 → v = (join s (homed j u)).1 ∨ v = .nil ∨ v ∈ S.ts := fun v hv => by
    obtain ⟨i, hi⟩ := List.mem_iff_getElem?.mp hv
    rcases idx i v hi with z | z | z
    · exact .inl z.2
    · exact .inr (.inl z.2)
    · exact .inr (.inr (get_mem z.2.2))
  have nI : ((dats s ++ dats (homed j u)).map Dat.i).Nodup := by
    rw [List.map_append]
    have e : (dats (homed j u)).map Dat.i = (dats u).map Dat.i := by
      rw [homed_dats, List.map_map]
      rfl
    rw [e]
    refine List.nodup_append.mpr ⟨G.ndI hs, G.ndI ht, fun x hx y hy exy => ?_⟩
    obtain ⟨d, hd, rfl⟩ := List.mem_map.mp hx
    obtain ⟨d', hd', rfl⟩ := List.mem_map.mp hy
    exact hne (G.one hs ht hd hd' exy).1
  refine ⟨G.len, fun v hv => ?_, fun v hv => ?_, fun i v hv d hd => ?_, fun i a h => ?_, G.ent, ?_⟩
  · rcases mem2 v hv with z | z | z
    · rw [z]
      exact joinHO (G.ho s (get_mem hs)) (homed_HO j (G.ho u (get_mem ht))) nI
    · rw [z]
      trivial
    · exact G.ho v z
  · rcases mem2 v hv with z | z | z
    · rw [z]
      exact joinLO (G.lo s (get_mem hs)) (homed_LO j (G.lo u (get_mem ht)))
    · rw [z]
      trivial
    · exact G.lo v z
  · rcases idx i v hv with ⟨z1, z2⟩ | ⟨z1, z2⟩ | ⟨z1, z2, z3⟩
    · subst z2
      rw [z1]
      rcases (mem d).mp hd with q | ⟨e, he, q⟩
      · exact G.home j s hs d q
      · rw [q]
        exact ⟨rfl, (G.home o u ht e he).2⟩
    · subst z2
      cases hd
    · exact G.home i v z3 d hd
  · obtain ⟨j', v, d, hv, hd, e1, e2⟩ := G.back i a h
    have at_ : ((S.ts.set o .nil).set j (join s (homed j u)).1)[j]? = some (join s (homed j u)).1 := List.getElem?_set_self (get_len hs1)
    by_cases c : j' = j
    · subst c
      rw [hs] at hv
      cases hv
      exact ⟨j', _, d, at_, (mem d).mpr (.inl hd), e1, e2⟩
    · by_cases c2 : j' = o
      · subst c2
        rw [ht] at hv
        cases hv
        exact ⟨j, _, { d with h := (j : Int) }, at_, (mem _).mpr (.inr ⟨d, hd, rfl⟩), e1, e2⟩
      · refine ⟨j', v, d, ?_, hd, e1, e2⟩
        show ((S.ts.set o .nil).set j (join s (homed j u)).1)[j']? = some v
        rw [List.getElem?_set_ne (Ne.symm c), List.getElem?_set_ne (Ne.symm c2)]
        exact hv
  · have p1 := flat_set (t := .nil) ht
    have p2 := flat_set (t := (join s (homed j u)).1) hs1
    have p3 := join_addrs s (homed j u)
    rw [homed_addrs] at p3
    refine List.Perm.nodup_iff ?_ |>.mpr G.nd
    refine List.perm_iff_count.mpr fun x => ?_
    show List.count x (((S.ts.set o .nil).set j (join s (homed j u)).1).flatMap Tre.addrs) = _
    have c1 := List.perm_iff_count.mp p1 x
    have c2 := List.perm_iff_count.mp p2 x
    have c3 := List.perm_iff_count.mp p3 x
    rw [List.count_append, List.count_append] at c1 c2
    rw [List.count_append] at c3
    have c4 : List.count x (Tre.addrs .nil) = 0 := rfl
    omega
theorem sunk_yes {n : Nd} {l r : Tre} {w : Int} {f : Up} {fs : List Up} (h : lt { n with w := w } f.n) : sunk n l r w (f :: fs) =
    ((join (climb .nil (f :: fs)).1 (.nd { n with w := w } l r)).1, (climb .nil (f :: fs)).2 + (join (climb .nil (f :: fs)).1 (.nd { n with w := w } l r)).2) := if_pos h
theorem sunk_no {n : Nd} {l r : Tre} {w : Int} {f : Up} {fs : List Up} (h : ¬ lt { n with w := w } f.n) : sunk n l r w (f :: fs) = (plug (.nd { n with w := w } l r) (f :: fs), 0) := if_neg h
/-- what stands where something sank -/
theorem sunk_dats (n : Nd) (l r : Tre) (w : Int) (fs : List Up) : (dats (sunk n l r w fs).1).Perm (dats (.nd { n with w := w } l r) ++ upDats fs) := by
  cases fs with
  | nil =>
    show (dats (.nd { n with w := w } l r)).Perm (dats (.nd { n with w := w } l r) ++ [])
    rw [List.append_nil]
  | cons f fs =>
    by_cases c : lt { n with w := w } f.n
    · rw [sunk_yes c]
      refine (joinD _ _).trans (List.perm_append_comm.trans (List.Perm.append_left _ ?_))
      exact (climb_dats (f :: fs) .nil).trans (List.Perm.refl _)
    · rw [sunk_no c]
      exact plug_dats _ _
theorem nd_w_LO {n : Nd} {l r : Tre} (w : Int) (h : LO (.nd n l r)) : LO (.nd { n with w := w } l r) := h
theorem dlt_w {n : Nd} {w : Int} {d : Dat} (hw : w ≤ n.w) (h : dlt n.dat d) : dlt ({ n with w := w } : Nd).dat d := by
  unfold dlt Nd.dat at *
  simp only at *
  omega
theorem nd_w_HO {n : Nd} {l r : Tre} {w : Int} (hw : w ≤ n.w) (h : HO (.nd n l r)) : HO (.nd { n with w := w } l r) :=
  ⟨fun d hd => dlt_w hw (h.1 d hd), fun d hd => dlt_w hw (h.2.1 d hd), h.2.2.1, h.2.2.2⟩
theorem sunk_LO {n : Nd} {l r : Tre} {w : Int} {fs : List Up} (h : LO (plug (.nd n l r) fs)) : LO (sunk n l r w fs).1 := by
  obtain ⟨h1, h2⟩ := LO_plug fs _ h
  cases fs with
  | nil => exact nd_w_LO w h1
  | cons f fs =>
    by_cases c : lt { n with w := w } f.n
    · rw [sunk_yes c]
      exact joinLO (climb_LO (f :: fs) .nil _ trivial h2) (nd_w_LO w h1)
    · rw [sunk_no c]
      exact plug_LO (f :: fs) _ (nd_w_LO w h1) h2
theorem sunk_HO {n : Nd} {l r : Tre} {w : Int} {fs : List Up} (h : HO (plug (.nd n l r) fs)) (hw : w ≤ n.w) (hI : ((dats (plug (.nd n l r) fs)).map Dat.i).Nodup) : HO (sunk n l r w fs).1 := by
  obtain ⟨h1, h2, h3⟩ := HO_plug fs _ h
  have h4 := nd_w_HO hw h1
  have hI2 : ((dats (.nd n l r) ++ upDats fs).map Dat.i).Nodup := (((plug_dats fs (.nd n l r)).map Dat.i).nodup_iff).mp hI
  have ei : (dats (.nd { n with w := w } l r)).map Dat.i = (dats (.nd n l r)).map Dat.i := by
    rw [dats_nd, dats_nd]
    rfl
  cases fs with
  | nil => exact h4
  | cons f fs =>
    by_cases c : lt { n with w := w } f.n
    · rw [sunk_yes c]
      refine joinHO (climb_HO (f :: fs) .nil h2 (fun d hd => by cases hd) trivial) h4 ?_
      have pc : ((dats (climb .nil (f :: fs)).1).map Dat.i).Perm ((upDats (f :: fs)).map Dat.i) := (climb_dats (f :: fs) .nil).map Dat.i
      rw [List.map_append, ei]
      rw [List.map_append] at hI2
      refine ((pc.append_right _).trans List.perm_append_comm).nodup_iff.mpr hI2
    · rw [sunk_no c]
      refine plug_HO (f :: fs) _ h2 (fun d hd g hg => ?_) h4
      rw [dats_nd] at hd
      rcases List.mem_cons.mp hd with z | z
      · -- the thing itself
        have ni : ({ n with w := w } : Nd).i ≠ f.n.i := fun e => by
          rw [List.map_append, List.nodup_append] at hI2
          refine hI2.2.2 n.i ?_ f.n.i ?_ e
          · rw [dats_nd]
            exact List.mem_cons_self
          · exact List.mem_cons_self
        have lt1 : dlt f.n.dat ({ n with w := w } : Nd).dat := lt_dat.mp (lt_total ni c)
        rw [z]
        rcases List.mem_cons.mp hg with q | q
        · rw [q]
          exact lt1
        · exact dlt_trans (h2.2.2.1 g q).1 lt1
      · exact h3 d (by rw [dats_nd]; exact List.mem_cons_of_mem _ z) g hg
theorem Good.sink (G : Good S) {n : Nd} {l r : Tre} {fs : List Up} {w : Int} (hs : S.ts[j]? = some (plug (.nd n l r) fs)) (hw : w ≤ n.w) : Good (S.sink j n l r w fs) := by
  unfold Fs.sink
  have pm := sunk_dats n l r w fs
  have p0 := plug_dats fs (.nd n l r)
  have mem : ∀ d, d ∈ dats (sunk n l r w fs).1 → ∃ e ∈ dats (plug (.nd n l r) fs), d.i = e.i ∧ d.a = e.a ∧ d.h = e.h := fun d hd => by
    rcases List.mem_append.mp (pm.mem_iff.mp hd) with z | z
    · rw [dats_nd] at z
      rcases List.mem_cons.mp z with z | z
      · refine ⟨n.dat, p0.mem_iff.mpr (List.mem_append_left _ (by rw [dats_nd]; exact List.mem_cons_self)), ?_⟩
        rw [z]
        exact ⟨rfl, rfl, rfl⟩
      · exact ⟨d, p0.mem_iff.mpr (List.mem_append_left _ (by rw [dats_nd]; exact List.mem_cons_of_mem _ z)), rfl, rfl, rfl⟩
    · exact ⟨d, p0.mem_iff.mpr (List.mem_append_right _ z), rfl, rfl, rfl⟩
  have back : ∀ e, e ∈ dats (plug (.nd n l r) fs) → ∃ d ∈ dats (sunk n l r w fs).1, d.i = e.i ∧ d.a = e.a := fun e he => by
    rcases List.mem_append.mp (p0.mem_iff.mp he) with z | z
    · rw [dats_nd] at z
      rcases List.mem_cons.mp z with z | z
      · refine ⟨({ n with w := w } : Nd).dat, pm.mem_iff.mpr (List.mem_append_left _ (by rw [dats_nd]; exact List.mem_cons_self)), ?_⟩
        rw [z]
        exact ⟨rfl, rfl⟩
      · exact ⟨e, pm.mem_iff.mpr (List.mem_append_left _ (by rw [dats_nd]; exact List.mem_cons_of_mem _ z)), rfl, rfl⟩
    · exact ⟨e, pm.mem_iff.mpr (List.mem_append_right _ z), rfl, rfl⟩
  have pa : (Tre.addrs (sunk n l r w fs).1).Perm (Tre.addrs (plug (.nd n l r) fs)) := by
    have q1 := pm.map Dat.a
    have q2 := p0.map Dat.a
    rw [List.map_append] at q1 q2
    have e : (dats (.nd { n with w := w } l r)).map Dat.a = (dats (.nd n l r)).map Dat.a := by
      rw [dats_nd, dats_nd]
      rfl
    rw [e] at q1
    exact q1.trans q2.symm
  have hA : (Tre.addrs (plug (.nd n l r) fs)).Nodup := by
    obtain ⟨A, B, eS, _⟩ := at_split hs
    have hnd := G.nd
    rw [eS] at hnd
    exact (List.nodup_append.mp (flat_split.nodup_iff.mp hnd)).1
  refine G.repl hs G.len (sunk_HO (G.ho _ (get_mem hs)) hw (G.ndI hs)) (sunk_LO (G.lo _ (get_mem hs))) (fun d hd => ?_) (pa.nodup_iff.mpr hA) (fun b hb => .inl (pa.mem_iff.mp hb)) (fun i b h _ => h) (fun i b h => ?_) G.ent
  · obtain ⟨e, he, e1, e2, e3⟩ := mem d hd
    have q := G.home j _ hs e he
    rw [e1, e2, e3]
    exact q
  · by_cases c2 : b ∈ Tre.addrs (plug (.nd n l r) fs)
    · obtain ⟨e, he, e1, e2⟩ := G.inT h hs c2
      obtain ⟨d, hd, q1, q2⟩ := back e he
      exact .inr ⟨d, hd, q1.trans e1, q2.trans e2⟩
    · exact .inl ⟨h, c2⟩
/-- the place of a thing in its tree -/
theorem plug_app : ∀ (fs gs : List Up) (t : Tre), plug t (fs ++ gs) = plug (plug t fs) gs
  | [], _, _ => rfl
  | f :: fs, gs, t => plug_app fs gs (put1 f t)
theorem place : ∀ (t : Tre) (d : Dat), d ∈ dats t → ∃ (n : Nd) (l r : Tre) (fs : List Up), t = plug (.nd n l r) fs ∧ n.dat = d
  | .nil, d, h => by cases h
  | .nd n l r, d, h => by
    rw [dats_nd] at h
    rcases List.mem_cons.mp h with z | z
    · exact ⟨n, l, r, [], rfl, z.symm⟩
    · rcases List.mem_append.mp z with z | z
      · obtain ⟨m, p, q, fs, e, hd⟩ := place l d z
        exact ⟨m, p, q, fs ++ [⟨n, false, r⟩], by rw [plug_app, ← e]; rfl, hd⟩
      · obtain ⟨m, p, q, fs, e, hd⟩ := place r d z
        exact ⟨m, p, q, fs ++ [⟨n, true, l⟩], by rw [plug_app, ← e]; rfl, hd⟩
end
/-! ### the field in memory -/
def ff (lt ln : Addr) (wk : Int) : List (Str × V) := [("_tops", .ref lt), ("_nodes", .ref ln), ("_work", .int wk)]
theorem fe_nt : (("_nodes" : Str) == "_tops") = false := by decide +kernel
theorem fe_wt : (("_work" : Str) == "_tops") = false := by decide +kernel
theorem fe_wn : (("_work" : Str) == "_nodes") = false := by decide +kernel
section
variable {lt ln : Addr} {wk z : Int}
theorem ff_tops : (ff lt ln wk).lookup ("_tops" : Str) = some (V.ref lt) := lk_eq
theorem ff_nodes : (ff lt ln wk).lookup ("_nodes" : Str) = some (V.ref ln) := (lk_ne fe_nt).trans lk_eq
theorem ff_work : (ff lt ln wk).lookup ("_work" : Str) = some (V.int wk) := (lk_ne fe_wt).trans ((lk_ne fe_wn).trans lk_eq)
theorem ff_put : putF ("_work" : Str) (V.int z) (ff lt ln wk) = ff lt ln z := (pf_ne fe_wt).trans (congrArg (List.cons _) ((pf_ne fe_wn).trans (congrArg (List.cons _) pf_eq)))
theorem ff_len : (ff lt ln wk).length < 1000 := by show 3 < 1000; decide
theorem ff_no {m : Str} (h1 : (m == "_tops") = false) (h2 : (m == "_nodes") = false) (h3 : (m == "_work") = false) : (ff lt ln wk).lookup m = none := by
  unfold ff
  rw [lk_ne h1, lk_ne h2, lk_ne h3]
  rfl
theorem ff_new : putF ("_work" : Str) (V.int 0) (putF ("_nodes" : Str) (V.ref ln) (putF ("_tops" : Str) (V.ref lt) [])) = ff lt ln 0 := by
  have e1 : putF ("_nodes" : Str) (V.ref ln) (putF ("_tops" : Str) (V.ref lt) []) = ([("_tops", .ref lt), ("_nodes", .ref ln)] : List (Str × V)) := by
    rw [pf_nil]
    exact (pf_ne fe_nt).trans (congrArg (List.cons _) pf_nil)
  rw [e1]
  exact (pf_ne fe_wt).trans (congrArg (List.cons _) ((pf_ne fe_wn).trans (congrArg (List.cons _) pf_nil)))
end
theorem ff_ne_nf {lt ln C D dx dy : Addr} {wk i w h k : Int} {ab l r : V} : HO.ins D dx (ff lt ln wk) ≠ HO.ins C dy (nf i w h ab l r k) := fun e => by
  injection e with _ _ e
  have := congrArg List.length e
  exact absurd this (by show ¬ 3 = 7; decide)
/-- the field of the state S stands at p; H0: all else that was known -/
structure FAt (C D : Addr) (H0 H : Hp) (p dx lt ln : Addr) (S : Fs) : Prop where
  same : Same H0 H
  p0 : H0 p = none
  t0 : H0 lt = none
  n0 : H0 ln = none
  ob : H p = some (.ins D dx (ff lt ln S.wk))
  lts : H lt = some (.lst (S.ts.map ref))
  lns : H ln = some (.lst S.ns)
  ne : lt ≠ ln
  tr : ∀ t ∈ S.ts, TAt C H t .non ∧ ∀ b ∈ Tre.addrs t, H0 b = none
theorem TAt.nfs : ∀ {C : Addr} {H : Hp} {t : Tre} {ab : V}, TAt C H t ab → ∀ b ∈ Tre.addrs t, ∃ dx i w h x l r k, H b = some (.ins C dx (nf i w h x l r k))
  | _, _, .nil, _, _ => fun b hb => by cases hb
  | C, H, .nd n l r, ab, h => fun b hb => by
    rw [addrs_nd] at hb
    rcases List.mem_cons.mp hb with e | hb
    · subst e
      obtain ⟨dx, e⟩ := h.1
      exact ⟨dx, _, _, _, _, _, _, _, e⟩
    · rcases List.mem_append.mp hb with z | z
      · exact h.2.1.nfs b z
      · exact h.2.2.nfs b z
section
variable {C D : Addr} {H0 H H' : Hp} {p dx lt ln : Addr} {S : Fs}
theorem FAt.apart (A : FAt C D H0 H p dx lt ln S) {t : Tre} {ab : V} (h : TAt C H t ab) : p ∉ Tre.addrs t ∧ lt ∉ Tre.addrs t ∧ ln ∉ Tre.addrs t := by
  refine ⟨fun z => ?_, fun z => ?_, fun z => ?_⟩
  · obtain ⟨d, i, w, hh, x, l, r, k, e⟩ := h.nfs p z
    rw [A.ob] at e
    exact ff_ne_nf (Option.some.inj e)
  · obtain ⟨d, i, w, hh, x, l, r, k, e⟩ := h.nfs lt z
    rw [A.lts] at e
    cases e
  · obtain ⟨d, i, w, hh, x, l, r, k, e⟩ := h.nfs ln z
    rw [A.lns] at e
    cases e
theorem FAt.pt (A : FAt C D H0 H p dx lt ln S) : p ≠ lt ∧ p ≠ ln :=
  ⟨ne_of A.ob A.lts (by intro z; cases z), ne_of A.ob A.lns (by intro z; cases z)⟩
/-- one tree told anew -/
theorem FAt.repl (A : FAt C D H0 H p dx lt ln S) (hnd : (S.ts.flatMap Tre.addrs).Nodup) {j : Nat} {s t : Tre} {ns : List V} {wk : Int} (hj : S.ts[j]? = some s) (ex : List Addr) (hex : ∀ b ∈ ex, H0 b = none ∧ b ∉ S.ts.flatMap Tre.addrs)
    (fr : Frame (p :: lt :: ln :: (Tre.addrs s ++ ex)) H H') (ob : H' p = some (.ins D dx (ff lt ln wk))) (l1 : H' lt = some (.lst ((S.ts.set j t).map ref))) (l2 : H' ln = some (.lst ns)) (ht : TAt C H' t .non)
    (sub : ∀ b ∈ Tre.addrs t, b ∈ Tre.addrs s ∨ b ∈ ex) : FAt C D H0 H' p dx lt ln ⟨S.ts.set j t, ns, wk⟩ := by
  obtain ⟨X, Y, eS, hX⟩ := at_split hj
  rw [eS] at hnd
  obtain ⟨n1, n2, n3⟩ := nodup_app (flat_split.nodup_iff.mp hnd)
  have s0 : ∀ b ∈ Tre.addrs s, H0 b = none := (A.tr s (get_mem hj)).2
  refine ⟨fun b o hb => ?_, A.p0, A.t0, A.n0, ob, l1, l2, A.ne, fun u hu => ?_⟩
  · refine fr b o (A.same b o hb) fun z => ?_
    have no : ∀ c, H0 c = none → b ≠ c := fun c hc e => by
      rw [e, hc] at hb
      cases hb
    rcases List.mem_cons.mp z with z | z
    · exact no _ A.p0 z
    rcases List.mem_cons.mp z with z | z
    · exact no _ A.t0 z
    rcases List.mem_cons.mp z with z | z
    · exact no _ A.n0 z
    rcases List.mem_append.mp z with z | z
    · exact no b (s0 b z) rfl
    · exact no b (hex b z).1 rfl
  · have hu' : u ∈ X ++ t :: Y := by
      have e : S.ts.set j t = X ++ t :: Y := by
        rw [eS, ← hX]
        exact set_split X Y s t
      have hu2 : u ∈ S.ts.set j t := hu
      rw [e] at hu2
      exact hu2
    have other : u ∈ X ∨ u ∈ Y → TAt C H' u .non ∧ ∀ b ∈ Tre.addrs u, H0 b = none := fun h => by
      have hm : u ∈ S.ts := by
        rw [eS]
        rcases h with h | h
        · exact List.mem_append_left _ h
        · exact List.mem_append_right _ (List.mem_cons_of_mem _ h)
      have q := A.tr u hm
      refine ⟨q.1.keep fr fun b hb z => ?_, q.2⟩
      have ap := A.apart q.1
      rcases List.mem_cons.mp z with z | z
      · exact ap.1 (by rw [← z]; exact hb)
      rcases List.mem_cons.mp z with z | z
      · exact ap.2.1 (by rw [← z]; exact hb)
      rcases List.mem_cons.mp z with z | z
      · exact ap.2.2 (by rw [← z]; exact hb)
      rcases List.mem_append.mp z with z | z
      · refine n3 b z ?_
        rcases h with h | h
        · exact List.mem_append_left _ (List.mem_flatMap.mpr ⟨u, h, hb⟩)
        · exact List.mem_append_right _ (List.mem_flatMap.mpr ⟨u, h, hb⟩)
      · exact (hex b z).2 (List.mem_flatMap.mpr ⟨u, hm, hb⟩)
    rcases List.mem_append.mp hu' with z | z
    · exact other (.inl z)
    · rcases List.mem_cons.mp z with z | z
      · rw [z]
        exact ⟨ht, fun b hb => (sub b hb).elim (s0 b) fun q => (hex b q).1⟩
      · exact other (.inr z)
/-- an object of the others' is written, or made: the field stays -/
theorem FAt.wr (A : FAt C D H0 H p dx lt ln S) {q : Addr} {o : HO} (hq : H0 q ≠ none ∨ H q = none) : FAt C D (upd H0 q o) (upd H q o) p dx lt ln S := by
  have ne : ∀ b u, H b = some u → H0 b = none → b ≠ q := fun b u h h0 e => by
    subst e
    rcases hq with z | z
    · exact z h0
    · rw [h] at z
      cases z
  have up : ∀ b u, H b = some u → H0 b = none → (upd H0 q o) b = none := fun b u h h0 => by
    rw [upd_ne (ne b u h h0)]
    exact h0
  have up2 : ∀ b u, H b = some u → H0 b = none → (upd H q o) b = some u := fun b u h h0 => by
    rw [upd_ne (ne b u h h0)]
    exact h
  refine ⟨fun b u hb => ?_, up _ _ A.ob A.p0, up _ _ A.lts A.t0, up _ _ A.lns A.n0, up2 _ _ A.ob A.p0, up2 _ _ A.lts A.t0, up2 _ _ A.lns A.n0, A.ne, fun t ht => ?_⟩
  · by_cases e : b = q
    · subst e
      rw [upd_same] at hb ⊢
      exact hb
    · rw [upd_ne e] at hb ⊢
      exact A.same b u hb
  · have q1 := A.tr t ht
    have f : Frame [q] H (upd H q o) := Frame.wr (List.mem_singleton.mpr rfl)
    have n1 : ∀ b ∈ Tre.addrs t, b ≠ q := fun b hb => by
      obtain ⟨d, fs, e⟩ := q1.1.there b hb
      exact ne b _ e (q1.2 b hb)
    refine ⟨q1.1.keep f fun b hb z => n1 b hb (List.mem_singleton.mp z), fun b hb => ?_⟩
    rw [upd_ne (n1 b hb)]
    exact q1.2 b hb
end
/-- a good field stands at p -/
def Fd (C D : Addr) (H0 H : Hp) (p : Addr) (S : Fs) : Prop := Good S ∧ ∃ dx lt ln, FAt C D H0 H p dx lt ln S
theorem Fd.same {C D : Addr} {H0 H : Hp} {p : Addr} {S : Fs} (F : Fd C D H0 H p S) : Same H0 H := let ⟨_, _, _, _, A⟩ := F; A.same
theorem Fd.wr {C D : Addr} {H0 H : Hp} {p : Addr} {S : Fs} (F : Fd C D H0 H p S) {q : Addr} {o : HO} (hq : H0 q ≠ none ∨ H q = none) : Fd C D (upd H0 q o) (upd H q o) p S :=
  let ⟨G, dx, lt, ln, A⟩ := F
  ⟨G, dx, lt, ln, A.wr hq⟩
theorem Fd.later {C D : Addr} {H0 H H' : Hp} {p : Addr} {S : Fs} (F : Fd C D H0 H p S) (sm : Same H H') : Fd C D H0 H' p S := by
  obtain ⟨G, dx, lt, ln, A⟩ := F
  exact ⟨G, dx, lt, ln, fun b o hb => sm _ _ (A.same b o hb), A.p0, A.t0, A.n0, sm _ _ A.ob, sm _ _ A.lts, sm _ _ A.lns, A.ne, fun t ht => ⟨(A.tr t ht).1.same sm, (A.tr t ht).2⟩⟩
theorem Fd.obj {C D : Addr} {H0 H : Hp} {p : Addr} {S : Fs} (F : Fd C D H0 H p S) : ∃ dx lt ln, H p = some (.ins D dx (ff lt ln S.wk)) ∧ ∀ m, (m == ("_tops" : Str)) = false → (m == ("_nodes" : Str)) = false → (m == ("_work" : Str)) = false → (ff lt ln S.wk).lookup m = none :=
  let ⟨_, dx, lt, ln, A⟩ := F
  ⟨dx, lt, ln, A.ob, fun _ h1 h2 h3 => ff_no h1 h2 h3⟩
/-- two fields: either may be the last one -/
theorem Fd.swap {C D : Addr} {H0 H1 H : Hp} {p q : Addr} {S R : Fs} (F : Fd C D H0 H1 p S) (G : Fd C D H1 H q R) : ∃ H2, Fd C D H0 H2 q R ∧ Fd C D H2 H p S := by
  obtain ⟨GS, dx, lt, ln, A⟩ := F
  obtain ⟨GR, dy, mt, mn, B⟩ := G
  -- the addresses of the first field
  let own : Addr → Prop := fun b => H0 b = none ∧ (b = p ∨ b = lt ∨ b = ln ∨ b ∈ S.ts.flatMap Tre.addrs)
  have hown : ∀ b, own b → H1 b ≠ none := fun b hb z => by
    rcases hb.2 with e | e | e | e
    · rw [e, A.ob] at z
      cases z
    · rw [e, A.lts] at z
      cases z
    · rw [e, A.lns] at z
      cases z
    · obtain ⟨t, ht, hb2⟩ := List.mem_flatMap.mp e
      obtain ⟨d, fs, e2⟩ := (A.tr t ht).1.there b hb2
      rw [e2] at z
      cases z
  have dec : ∀ b, own b ∨ ¬ own b := fun b => Classical.em _
  let H2 : Hp := fun b => @ite _ (own b) (Classical.propDecidable _) none (H b)
  have on : ∀ b, own b → H2 b = none := fun b h => if_pos h
  have off : ∀ b, ¬ own b → H2 b = H b := fun b h => if_neg h
  have off1 : ∀ b, H1 b = none → H2 b = H b := fun b h => off b fun z => hown b z h
  have keep1 : ∀ t, t ∈ R.ts → TAt C H2 t .non := fun t ht => by
    have key : ∀ (t : Tre) (ab : V), TAt C H t ab → (∀ b ∈ Tre.addrs t, H1 b = none) → TAt C H2 t ab := by
      intro t
      induction t with
      | nil => intro ab h _
               exact h
      | nd n l r ihl ihr =>
        intro ab h hn
        rw [addrs_nd] at hn
        obtain ⟨⟨dd, e⟩, hl, hr⟩ := h
        exact ⟨⟨dd, (off1 _ (hn _ List.mem_cons_self)).trans e⟩, ihl _ hl fun b hb => hn b (List.mem_cons_of_mem _ (List.mem_append_left _ hb)), ihr _ hr fun b hb => hn b (List.mem_cons_of_mem _ (List.mem_append_right _ hb))⟩
    exact key t _ (B.tr t ht).1 (B.tr t ht).2
  have none0 : ∀ b, H1 b = none → H0 b = none := fun b h => by
    cases e : H0 b with
    | none => rfl
    | some o =>
      have := A.same b o e
      rw [h] at this
      cases this
  refine ⟨H2, ⟨GR, dy, mt, mn, fun b o hb => ?_, none0 _ B.p0, none0 _ B.t0, none0 _ B.n0, (off1 _ B.p0).trans B.ob, (off1 _ B.t0).trans B.lts, (off1 _ B.n0).trans B.lns, B.ne, fun t ht => ⟨keep1 t ht, fun b hb => none0 b ((B.tr t ht).2 b hb)⟩⟩,
    ⟨GS, dx, lt, ln, fun b o hb => ?_, on _ ⟨A.p0, .inl rfl⟩, on _ ⟨A.t0, .inr (.inl rfl)⟩, on _ ⟨A.n0, .inr (.inr (.inl rfl))⟩, B.same _ _ A.ob, B.same _ _ A.lts, B.same _ _ A.lns, A.ne, fun t ht => ⟨(A.tr t ht).1.same B.same, fun b hb => on b ⟨(A.tr t ht).2 b hb, .inr (.inr (.inr (List.mem_flatMap.mpr ⟨t, ht, hb⟩)))⟩⟩⟩⟩
  · have h1 : ¬ own b := fun z => by
      rw [z.1] at hb
      cases hb
    rw [off b h1]
    exact B.same _ _ (A.same _ _ hb)
  · rcases dec b with z | z
    · rw [on b z] at hb
      cases hb
    · rw [off b z] at hb
      exact hb
/-- texts of the refusals fit -/
theorem txt_len {i : Int} (h : i.natAbs.log2 < 1920) : (toString i : Str).length ≤ 2000 := by
  have e := int_text_length_le (k := 1920) (by decide) h
  have e2 : (toString i : Str).length = (toString i).length := ofString_length _
  omega
theorem app_fits {x y : Str} {n m : Nat} (hx : x.length ≤ n) (hy : y.length ≤ m) : (x ++ y).length ≤ n + m := by
  rw [Str.length_append]
  omega
theorem fits {n : Nat} (h : n ≤ 10000) : n ≤ sizeLine := Nat.le_trans h (by decide)
theorem n_yes {p A B : Prop} [Decidable p] (h : p) (q : B) : if (!decide p) = true then A else B := by
  rw [decide_eq_true h]
  exact iteF q
theorem n_no {p A B : Prop} [Decidable p] (h : ¬ p) (q : A) : if (!decide p) = true then A else B := by
  rw [decide_eq_false h]
  exact iteT q
/-! ### the rows of a law: by thing its weight and its heap -/
theorem Good.ndT {S : Fs} (G : Good S) {j : Nat} {s : Tre} (hs : S.ts[j]? = some s) : (Tre.addrs s).Nodup := by
  obtain ⟨X, Y, eS, _⟩ := at_split hs
  have hnd := G.nd
  rw [eS] at hnd
  exact (List.nodup_append.mp (flat_split.nodup_iff.mp hnd)).1
theorem Good.ndP {S : Fs} (G : Good S) {j o : Nat} {s u : Tre} (hs : S.ts[j]? = some s) (hu : S.ts[o]? = some u) (hne : j ≠ o) : ∀ b ∈ Tre.addrs s, b ∉ Tre.addrs u := fun b hb hb2 => by
  obtain ⟨d, hd, ed⟩ := List.mem_map.mp hb
  obtain ⟨e, he, ee⟩ := List.mem_map.mp hb2
  exact hne (G.oneA hs hu hd he (ed.trans ee.symm)).1
structure Rows (S : Fs) (ws : List Int) (hs : List (Option Nat)) : Prop where
  n1 : S.ns.length = ws.length
  n2 : hs.length = ws.length
  to : ∀ (j : Nat) (t : Tre), S.ts[j]? = some t → ∀ d ∈ dats t, ws[d.i]? = some d.w ∧ hs[d.i]? = some (some j)
  of : ∀ i j : Nat, hs[i]? = some (some j) → ∃ t d, S.ts[j]? = some t ∧ d ∈ dats t ∧ d.i = i
/-- the things of heap j among the first m, each with its weight -/
def rowsTo (ws : List Int) (hs : List (Option Nat)) (j m : Nat) : List (Int × Int) := ((List.range m).filter fun k => decide (hs[k]? = some (some j))).map fun k => (ws.getD k 0, (k : Int))
def rowsOf (ws : List Int) (hs : List (Option Nat)) (j : Nat) : List (Int × Int) := rowsTo ws hs j ws.length
def datP (d : Dat) : Int × Int := (d.w, (d.i : Int))
theorem rowsTo_zero (ws : List Int) (hs : List (Option Nat)) (j : Nat) : rowsTo ws hs j 0 = [] := rfl
theorem rowsTo_yes {ws : List Int} {hs : List (Option Nat)} {j m : Nat} {w : Int} (h : hs[m]? = some (some j)) (hw : ws[m]? = some w) : rowsTo ws hs j (m + 1) = rowsTo ws hs j m ++ [(w, (m : Int))] := by
  unfold rowsTo
  rw [List.range_succ, List.filter_append, List.map_append]
  congr 1
  rw [List.filter_cons_of_pos (by rw [decide_eq_true_eq]; exact h), List.filter_nil]
  show [(ws.getD m 0, (m : Int))] = _
  rw [List.getD_eq_getElem?_getD, hw]
  rfl
theorem rowsTo_no {ws : List Int} {hs : List (Option Nat)} {j m : Nat} (h : hs[m]? ≠ some (some j)) : rowsTo ws hs j (m + 1) = rowsTo ws hs j m := by
  unfold rowsTo
  rw [List.range_succ, List.filter_append, List.map_append, List.filter_cons_of_neg (by rw [decide_eq_true_eq]; exact h), List.filter_nil, List.map_nil, List.append_nil]
theorem rowsTo_len (ws : List Int) (hs : List (Option Nat)) (j m : Nat) : (rowsTo ws hs j m).length ≤ m := by
  unfold rowsTo
  rw [List.length_map]
  exact Nat.le_trans (List.length_filter_le _ _) (by rw [List.length_range]; exact Nat.le_refl _)
theorem mem_rowsTo {ws : List Int} {hs : List (Option Nat)} {j m : Nat} {q : Int × Int} : q ∈ rowsTo ws hs j m ↔ ∃ k, k < m ∧ hs[k]? = some (some j) ∧ q = (ws.getD k 0, (k : Int)) := by
  unfold rowsTo
  rw [List.mem_map]
  refine ⟨fun ⟨k, h, e⟩ => ?_, fun ⟨k, h1, h2, e⟩ => ⟨k, List.mem_filter.mpr ⟨List.mem_range.mpr h1, by rw [decide_eq_true_eq]; exact h2⟩, e.symm⟩⟩
  obtain ⟨a, b⟩ := List.mem_filter.mp h
  exact ⟨k, List.mem_range.mp a, by rw [decide_eq_true_eq] at b; exact b, e.symm⟩
theorem nodup_map_inj {α β : Type} {f : α → β} : ∀ {l : List α}, (∀ x ∈ l, ∀ y ∈ l, f x = f y → x = y) → l.Nodup → (l.map f).Nodup
  | [], _, _ => List.nodup_nil
  | x :: l, hf, h => by
    rw [List.nodup_cons] at h
    rw [List.map_cons, List.nodup_cons]
    refine ⟨fun z => ?_, nodup_map_inj (fun a ha b hb => hf a (List.mem_cons_of_mem _ ha) b (List.mem_cons_of_mem _ hb)) h.2⟩
    obtain ⟨y, hy, e⟩ := List.mem_map.mp z
    rw [hf y (List.mem_cons_of_mem _ hy) x List.mem_cons_self e] at hy
    exact h.1 hy
theorem nodup_of_map {α β : Type} {f : α → β} : ∀ {l : List α}, (l.map f).Nodup → l.Nodup
  | [], _ => List.nodup_nil
  | x :: l, h => by
    rw [List.map_cons, List.nodup_cons] at h
    rw [List.nodup_cons]
    exact ⟨fun z => h.1 (List.mem_map_of_mem z), nodup_of_map h.2⟩
theorem rowsTo_nodup (ws : List Int) (hs : List (Option Nat)) (j m : Nat) : (rowsTo ws hs j m).Nodup := by
  unfold rowsTo
  refine nodup_map_inj (fun x _ y _ e => ?_) (List.nodup_range.filter _)
  have := (Prod.mk.inj e).2
  omega
section
variable {S : Fs} {t s : Tre} {j : Nat} {ws : List Int} {hs : List (Option Nat)}
theorem idx_set {α : Type} {l : List α} {j i : Nat} {s t u : α} (hs : l[j]? = some s) : (l.set j t)[i]? = some u ↔ (i = j ∧ u = t) ∨ (i ≠ j ∧ l[i]? = some u) := by
  by_cases c : i = j
  · subst c
    rw [List.getElem?_set_self (get_len hs)]
    exact ⟨fun e => .inl ⟨rfl, (Option.some.inj e).symm⟩, fun e => e.elim (fun q => by rw [q.2]) fun q => absurd rfl q.1⟩
  · rw [List.getElem?_set_ne (Ne.symm c)]
    exact ⟨fun e => .inr ⟨c, e⟩, fun e => e.elim (fun q => absurd q.1 c) fun q => q.2⟩
theorem Rows.perm (R : Rows S ws hs) (G : Good S) (h : S.ts[j]? = some t) : ((dats t).map datP).Perm (rowsOf ws hs j) := by
  have n1 : ((dats t).map datP).Nodup := by
    refine nodup_of_map (f := fun q => q.2.toNat) ?_
    rw [List.map_map]
    have e : ((fun q : Int × Int => q.2.toNat) ∘ datP) = Dat.i := rfl
    rw [e]
    exact G.ndI h
  refine (List.perm_ext_iff_of_nodup n1 (rowsTo_nodup _ _ _ _)).mpr fun q => ?_
  rw [mem_rowsTo, List.mem_map]
  refine ⟨fun ⟨d, hd, e⟩ => ?_, fun ⟨k, hk, hh, e⟩ => ?_⟩
  · obtain ⟨a, b⟩ := R.to j t h d hd
    exact ⟨d.i, get_len a, b, by rw [← e, List.getD_eq_getElem?_getD, a]; rfl⟩
  · obtain ⟨t', d, ht, hd, ei⟩ := R.of k j hh
    rw [h] at ht
    cases ht
    refine ⟨d, hd, ?_⟩
    obtain ⟨a, b⟩ := R.to j t h d hd
    rw [e, ← ei, List.getD_eq_getElem?_getD, a]
    rfl
theorem Rows.size (R : Rows S ws hs) (G : Good S) (h : S.ts[j]? = some t) : t.size = (rowsOf ws hs j).length := by
  rw [← (R.perm G h).length_eq, List.length_map, size_dats]
theorem Rows.top (R : Rows S ws hs) (G : Good S) {n : Nd} {l r : Tre} (h : S.ts[j]? = some (.nd n l r)) : (n.w, (n.i : Int)) ∈ rowsOf ws hs j ∧ ∀ q ∈ rowsOf ws hs j, SrtO.lexB q (n.w, (n.i : Int)) = false := by
  have p := R.perm G h
  refine ⟨p.mem_iff.mp (List.mem_map.mpr ⟨n.dat, by rw [dats_nd]; exact List.mem_cons_self, rfl⟩), fun q hq => ?_⟩
  obtain ⟨d, hd, rfl⟩ := List.mem_map.mp (p.mem_iff.mpr hq)
  refine SrtO.lexB_no.mpr ?_
  rcases HO_top (G.ho _ (get_mem h)) d hd with e | e
  · rw [e]
    show ¬ (n.w < n.w ∨ (n.w = n.w ∧ (n.i : Int) < (n.i : Int)))
    omega
  · unfold dlt at e
    show ¬ (d.w < n.w ∨ (d.w = n.w ∧ (d.i : Int) < (n.i : Int)))
    have e2 : n.w < d.w ∨ (n.w = d.w ∧ n.i < d.i) := e
    omega
theorem Rows.start : Rows ⟨[], [], 0⟩ [] [] := ⟨rfl, rfl, fun j t h => by simp at h, fun i j h => by simp at h⟩
theorem Rows.heap (R : Rows S ws hs) : Rows ⟨S.ts ++ [Tre.nil], S.ns, S.wk⟩ ws hs := by
  refine ⟨R.n1, R.n2, fun j t h d hd => ?_, fun i j h => ?_⟩
  · by_cases c : j < S.ts.length
    · rw [List.getElem?_append_left c] at h
      exact R.to j t h d hd
    · rw [List.getElem?_append_right (by omega)] at h
      have e := get_mem h
      rw [List.mem_singleton.mp e] at hd
      cases hd
  · obtain ⟨t, d, ht, r⟩ := R.of i j h
    exact ⟨t, d, by rw [List.getElem?_append_left (get_len ht)]; exact ht, r⟩
theorem Rows.put (R : Rows S ws hs) (h : S.ts[j]? = some s) (a : Addr) (w : Int) : Rows (S.put j a w) (ws ++ [w]) (hs ++ [some j]) := by
  unfold Fs.put
  rw [getD_of h]
  have mem : ∀ d, d ∈ dats (join s (leaf a S.ns.length w j)).1 ↔ d ∈ dats s ∨ d = ⟨a, S.ns.length, w, j⟩ := fun d => by
    rw [(joinD _ _).mem_iff, List.mem_append, leaf_dats, List.mem_singleton]
  have new1 : (ws ++ [w])[S.ns.length]? = some w := by rw [R.n1, List.getElem?_append_right (Nat.le_refl _), Nat.sub_self]; rfl
  have new2 : (hs ++ [some j])[S.ns.length]? = some (some j) := by rw [R.n1, ← R.n2, List.getElem?_append_right (Nat.le_refl _), Nat.sub_self]; rfl
  have old : ∀ {i : Nat} {v : Int} {k : Option Nat}, ws[i]? = some v ∧ hs[i]? = some k → (ws ++ [w])[i]? = some v ∧ (hs ++ [some j])[i]? = some k := fun h => by
    rw [List.getElem?_append_left (get_len h.1), List.getElem?_append_left (get_len h.2)]
    exact h
  refine ⟨?_, ?_, fun j' t' h' d hd => ?_, fun i j' h' => ?_⟩
  · show (S.ns ++ [_]).length = _
    rw [List.length_append, List.length_append, R.n1]
    rfl
  · rw [List.length_append, List.length_append, R.n2]
    rfl
  · rcases (idx_set h).mp h' with ⟨e1, e2⟩ | ⟨e1, e2⟩
    · rw [e1]
      rw [e2] at hd
      rcases (mem d).mp hd with z | z
      · exact old (R.to j s h d z)
      · rw [z]
        exact ⟨new1, new2⟩
    · exact old (R.to j' t' e2 d hd)
  · by_cases c : i < hs.length
    · rw [List.getElem?_append_left c] at h'
      obtain ⟨t, d, ht, hd, e⟩ := R.of i j' h'
      by_cases c2 : j' = j
      · subst c2
        rw [h] at ht
        cases ht
        exact ⟨_, d, (idx_set h).mpr (.inl ⟨rfl, rfl⟩), (mem d).mpr (.inl hd), e⟩
      · exact ⟨t, d, (idx_set h).mpr (.inr ⟨c2, ht⟩), hd, e⟩
    · rw [List.getElem?_append_right (by omega)] at h'
      have e := Option.some.inj (List.mem_singleton.mp (get_mem h'))
      have l := get_len h'
      rw [List.length_singleton] at l
      subst e
      exact ⟨_, ⟨a, S.ns.length, w, j'⟩, (idx_set h).mpr (.inl ⟨rfl, rfl⟩), (mem _).mpr (.inr rfl), by show S.ns.length = i; rw [R.n1, ← R.n2]; omega⟩
theorem Rows.take (R : Rows S ws hs) (G : Good S) {n : Nd} {l r : Tre} (h : S.ts[j]? = some (.nd n l r)) : Rows (S.take j n l r) ws (hs.set n.i none) := by
  unfold Fs.take
  have mem : ∀ d, d ∈ dats (join l r).1 ↔ d ∈ dats l ++ dats r := fun d => (joinD _ _).mem_iff
  have inn : ∀ d, d ∈ dats l ++ dats r → d ∈ dats (.nd n l r) := fun d hd => by rw [dats_nd]; exact List.mem_cons_of_mem _ hd
  have nI := G.ndI h
  rw [dats_nd, List.map_cons, List.nodup_cons] at nI
  have ntop : n.dat ∈ dats (.nd n l r) := by rw [dats_nd]; exact List.mem_cons_self
  refine ⟨?_, ?_, fun j' t' h' d hd => ?_, fun i j' h' => ?_⟩
  · show (S.ns.set n.i .non).length = _
    rw [List.length_set]
    exact R.n1
  · rw [List.length_set]
    exact R.n2
  · rcases (idx_set h).mp h' with ⟨e1, e2⟩ | ⟨e1, e2⟩
    · rw [e2] at hd
      have hd2 := (mem d).mp hd
      have q := R.to j _ h d (inn d hd2)
      have ne : n.i ≠ d.i := fun z => nI.1 (by rw [show n.dat.i = d.i from z]; exact List.mem_map_of_mem hd2)
      rw [e1, List.getElem?_set_ne ne]
      exact q
    · have q := R.to j' t' e2 d hd
      have ne : n.i ≠ d.i := fun z => e1 (G.one e2 h hd ntop z.symm).1
      rw [List.getElem?_set_ne ne]
      exact q
  · have ne : n.i ≠ i := fun z => by
      subst z
      have q : hs[n.i]? = some (some j) := (R.to j _ h n.dat ntop).2
      rw [List.getElem?_set_self (get_len q)] at h'
      cases h'
    rw [List.getElem?_set_ne ne] at h'
    obtain ⟨t, d, ht, hd, e⟩ := R.of i j' h'
    by_cases c2 : j' = j
    · subst c2
      rw [h] at ht
      cases ht
      rw [dats_nd] at hd
      rcases List.mem_cons.mp hd with z | z
      · rw [z] at e
        exact absurd e ne
      · exact ⟨_, d, (idx_set h).mpr (.inl ⟨rfl, rfl⟩), (mem d).mpr z, e⟩
    · exact ⟨t, d, (idx_set h).mpr (.inr ⟨c2, ht⟩), hd, e⟩
/-- all of heap o lies in heap j now -/
def moved (j o : Nat) (hs : List (Option Nat)) : List (Option Nat) := hs.map fun h => if h = some o then some j else h
theorem Rows.pour (R : Rows S ws hs) {o : Nat} {u : Tre} (h : S.ts[j]? = some s) (hu : S.ts[o]? = some u) (hne : j ≠ o) : Rows (S.pour j o) ws (moved j o hs) := by
  unfold Fs.pour
  rw [getD_of h, getD_of hu]
  have mem : ∀ d, d ∈ dats (join s (homed j u)).1 ↔ d ∈ dats s ∨ ∃ e ∈ dats u, d = { e with h := (j : Int) } := fun d => by
    rw [(joinD _ _).mem_iff, List.mem_append, homed_dats, List.mem_map]
    exact ⟨fun h => h.imp id fun ⟨e, he, q⟩ => ⟨e, he, q.symm⟩, fun h => h.imp id fun ⟨e, he, q⟩ => ⟨e, he, q.symm⟩⟩
  have hs1 : (S.ts.set o .nil)[j]? = some s := by
    rw [List.getElem?_set_ne (Ne.symm hne)]
    exact h
  have idx : ∀ (i : Nat) (v : Tre), ((S.ts.set o .nil).set j (join s (homed j u)).1)[i]? = some v ↔ (i = j ∧ v = (join s (homed j u)).1) ∨ (i ≠ j ∧ ((i = o ∧ v = .nil) ∨ (i ≠ o ∧ S.ts[i]? = some v))) := fun i v => by
    rw [idx_set hs1, idx_set hu]
  have hm : ∀ (i : Nat) (x : Option Nat), hs[i]? = some x → (moved j o hs)[i]? = some (if x = some o then some j else x) := fun i x e => by
    unfold moved
    rw [List.getElem?_map, e]
    rfl
  refine ⟨R.n1, by unfold moved; rw [List.length_map]; exact R.n2, fun j' t' h' d hd => ?_, fun i j' h' => ?_⟩
  · rcases (idx j' t').mp h' with ⟨e1, e2⟩ | ⟨e1, ⟨e2, e3⟩ | ⟨e2, e3⟩⟩
    · rw [e1]
      rw [e2] at hd
      rcases (mem d).mp hd with z | ⟨e, he, z⟩
      · have q := R.to j s h d z
        refine ⟨q.1, ?_⟩
        rw [hm _ _ q.2, if_neg fun z => hne (Option.some.inj z)]
      · have q := R.to o u hu e he
        rw [z]
        refine ⟨q.1, ?_⟩
        show (moved j o hs)[e.i]? = _
        rw [hm _ _ q.2, if_pos rfl]
    · rw [e3] at hd
      cases hd
    · have q := R.to j' t' e3 d hd
      refine ⟨q.1, ?_⟩
      rw [hm _ _ q.2, if_neg fun z => e2 (Option.some.inj z)]
  · unfold moved at h'
    rw [List.getElem?_map] at h'
    obtain ⟨x, hx, ex⟩ := Option.map_eq_some_iff.mp h'
    by_cases c : x = some o
    · rw [if_pos c] at ex
      have ej : j = j' := Option.some.inj ex
      subst ej
      rw [c] at hx
      obtain ⟨t, d, ht, hd, e⟩ := R.of i o hx
      rw [hu] at ht
      cases ht
      exact ⟨_, { d with h := (j : Int) }, (idx _ _).mpr (.inl ⟨rfl, rfl⟩), (mem _).mpr (.inr ⟨d, hd, rfl⟩), e⟩
    · rw [if_neg c] at ex
      subst ex
      obtain ⟨t, d, ht, hd, e⟩ := R.of i j' hx
      by_cases c2 : j' = j
      · subst c2
        rw [h] at ht
        cases ht
        exact ⟨_, d, (idx _ _).mpr (.inl ⟨rfl, rfl⟩), (mem _).mpr (.inl hd), e⟩
      · exact ⟨t, d, (idx _ _).mpr (.inr ⟨c2, .inr ⟨fun z => c (by rw [z]), ht⟩⟩), hd, e⟩
theorem Rows.sink (R : Rows S ws hs) (G : Good S) {n : Nd} {l r : Tre} {fs : List Up} {w : Int} (h : S.ts[j]? = some (plug (.nd n l r) fs)) : Rows (S.sink j n l r w fs) (ws.set n.i w) hs := by
  unfold Fs.sink
  have pm := sunk_dats n l r w fs
  have p0 := plug_dats fs (.nd n l r)
  have nI := (p0.map Dat.i).nodup_iff.mp (G.ndI h)
  rw [dats_nd, List.cons_append, List.map_cons, List.nodup_cons] at nI
  have ntop : n.dat ∈ dats (plug (.nd n l r) fs) := p0.mem_iff.mpr (List.mem_append_left _ (by rw [dats_nd]; exact List.mem_cons_self))
  have mem : ∀ d, d ∈ dats (sunk n l r w fs).1 ↔ d = ({ n with w := w } : Nd).dat ∨ d ∈ (dats l ++ dats r) ++ upDats fs := fun d => by
    rw [pm.mem_iff, dats_nd, List.cons_append, List.mem_cons]
  have mem0 : ∀ d, d ∈ dats (plug (.nd n l r) fs) ↔ d = n.dat ∨ d ∈ (dats l ++ dats r) ++ upDats fs := fun d => by
    rw [p0.mem_iff, dats_nd, List.cons_append, List.mem_cons]
  have qn : ws[n.i]? = some n.w ∧ hs[n.i]? = some (some j) := R.to j _ h n.dat ntop
  have hset : (ws.set n.i w)[n.i]? = some w := List.getElem?_set_self (get_len qn.1)
  refine ⟨by rw [List.length_set]; exact R.n1, by rw [List.length_set]; exact R.n2, fun j' t' h' d hd => ?_, fun i j' h' => ?_⟩
  · rcases (idx_set h).mp h' with ⟨e1, e2⟩ | ⟨e1, e2⟩
    · rw [e1]
      rw [e2] at hd
      rcases (mem d).mp hd with z | z
      · rw [z]
        exact ⟨hset, qn.2⟩
      · have q := R.to j _ h d ((mem0 d).mpr (.inr z))
        have ne : n.i ≠ d.i := fun q => nI.1 (by rw [show n.dat.i = d.i from q]; exact List.mem_map_of_mem z)
        rw [List.getElem?_set_ne ne]
        exact q
    · have q := R.to j' t' e2 d hd
      have ne : n.i ≠ d.i := fun z => e1 (G.one e2 h hd ntop z.symm).1
      rw [List.getElem?_set_ne ne]
      exact q
  · obtain ⟨t, d, ht, hd, e⟩ := R.of i j' h'
    by_cases c2 : j' = j
    · subst c2
      rw [h] at ht
      cases ht
      rcases (mem0 d).mp hd with z | z
      · exact ⟨_, ({ n with w := w } : Nd).dat, (idx_set h).mpr (.inl ⟨rfl, rfl⟩), (mem _).mpr (.inl rfl), by rw [← e, z]; rfl⟩
      · exact ⟨_, d, (idx_set h).mpr (.inl ⟨rfl, rfl⟩), (mem _).mpr (.inr z), e⟩
    · exact ⟨t, d, (idx_set h).mpr (.inr ⟨c2, ht⟩), hd, e⟩
/-- a thing as the rows tell it -/
theorem Rows.at (R : Rows S ws hs) {i : Nat} (h : hs[i]? = some (some j)) : ∃ t d, S.ts[j]? = some t ∧ d ∈ dats t ∧ d.i = i ∧ ws[i]? = some d.w := by
  obtain ⟨t, d, h1, h2, h3⟩ := R.of i j h
  exact ⟨t, d, h1, h2, h3, by rw [← h3]; exact (R.to j t h1 d h2).1⟩
/-- a thing that is gone, or was never there -/
theorem Rows.gone (R : Rows S ws hs) (G : Good S) {i : Nat} (h : ∀ j, hs[i]? ≠ some (some j)) : ∀ a, S.ns[i]? ≠ some (.ref a) := fun a e => by
  obtain ⟨j, t, d, h1, h2, h3, _⟩ := G.back i a e
  have q := (R.to j t h1 d h2).2
  rw [h3] at q
  exact h j q
end
/-- a home as the law's list tells it -/
def hV : Option Nat → V
  | none => .non
  | some j => .int (j : Int)
theorem hV_at {hs : List (Option Nat)} {i : Nat} {x : Option Nat} (h : hs[i]? = some x) : (hs.map hV)[i]? = some (hV x) := by
  rw [List.getElem?_map, h]
  rfl
theorem int_at {ws : List Int} {i : Nat} {w : Int} (h : ws[i]? = some w) : (ws.map V.int)[i]? = some (V.int w) := by
  rw [List.getElem?_map, h]
  rfl
theorem Rows.there {S : Fs} {ws : List Int} {hs : List (Option Nat)} (R : Rows S ws hs) (G : Good S) {i j : Nat} (h : hs[i]? = some (some j)) : ∃ a, S.ns[i]? = some (.ref a) := by
  obtain ⟨t, d, h1, h2, h3⟩ := R.of i j h
  exact ⟨d.a, by rw [← h3]; exact (G.home j t h1 d h2).2⟩
/-- a thing, with all that is told of it -/
theorem Rows.one {S : Fs} {ws : List Int} {hs : List (Option Nat)} (R : Rows S ws hs) (G : Good S) {i j j' : Nat} {t : Tre} {d : Dat} (h : hs[i]? = some (some j)) (ht : S.ts[j']? = some t) (hd : d ∈ dats t) (e : d.i = i) : ws[i]? = some d.w ∧ d.h = (j : Int) ∧ j' = j := by
  obtain ⟨t2, d2, h1, h2, h3⟩ := R.of i j h
  obtain ⟨e1, e2, e3⟩ := G.one ht h1 hd h2 (e.trans h3.symm)
  have q := R.to j' t ht d hd
  rw [e] at q
  exact ⟨q.1, by rw [← e1]; exact (G.home j' t ht d hd).1, e1⟩
theorem nat_log {i : Nat} (h : i < 100000) : ((i : Int)).natAbs.log2 < 1920 := by
  have e : ((i : Int)).natAbs = i := Int.natAbs_natCast i
  rw [e]
  exact Nat.lt_of_le_of_lt (log2_mono (Nat.le_of_lt h)) (by decide)
/-! ### new objects handed over; pairs in memory -/
/-- what was known, with all that is new -/
def grow (H0 H H' : Hp) : Hp := fun b => match H b with
  | none => H' b
  | some _ => H0 b
theorem grow_new {H0 H H' : Hp} {b : Addr} (h : H b = none) : grow H0 H H' b = H' b := by
  unfold grow
  rw [h]
theorem grow_old {H0 H H' : Hp} {b : Addr} {o : HO} (h : H b = some o) : grow H0 H H' b = H0 b := by
  unfold grow
  rw [h]
theorem grow_same {H0 H H' : Hp} (s : Same H0 H) : Same H0 (grow H0 H H') := fun b o hb => by
  rw [grow_old (s b o hb)]
  exact hb
theorem Fd.grow {C D : Addr} {H0 H H' : Hp} {p : Addr} {S : Fs} (F : Fd C D H0 H p S) (sm : Same H H') : Fd C D (grow H0 H H') H' p S := by
  obtain ⟨G, dx, lt, ln, A⟩ := F
  refine ⟨G, dx, lt, ln, fun b o hb => ?_, (grow_old A.ob).trans A.p0, (grow_old A.lts).trans A.t0, (grow_old A.lns).trans A.n0, sm _ _ A.ob, sm _ _ A.lts, sm _ _ A.lns, A.ne, fun t ht => ⟨(A.tr t ht).1.same sm, fun b hb => ?_⟩⟩
  · cases e : H b with
    | none =>
      rw [grow_new e] at hb
      exact hb
    | some u =>
      rw [grow_old e] at hb
      exact sm _ _ (A.same _ _ hb)
  · obtain ⟨dd, fs, e⟩ := (A.tr t ht).1.there b hb
    rw [grow_old e]
    exact (A.tr t ht).2 b hb
theorem sql_same {K : PySem.W.Frag} {H H' : Hp} {a : Addr} {xs : List V} (h : SqL K H a xs) (s : Same H H') : SqL K H' a xs :=
  h.elim (fun h => .inl (h.elim (fun h => .inl (s _ _ h)) fun ⟨o, h⟩ => .inr ⟨o, s _ _ h⟩)) .inr
/-- the list at D holds new tuples of these pairs -/
structure PairsAt (H : Hp) (D : Addr) (as : List Addr) (ps : List (Int × Int)) : Prop where
  lst : H D = some (.lst (as.map V.ref))
  len : as.length = ps.length
  row : ∀ (k : Nat) (a : Addr), as[k]? = some a → ∃ q, ps[k]? = some q ∧ H a = some (.tup [.int q.1, .int q.2])
theorem PairsAt.same {H H' : Hp} {D : Addr} {as : List Addr} {ps : List (Int × Int)} (h : PairsAt H D as ps) (s : Same H H') : PairsAt H' D as ps :=
  ⟨s _ _ h.lst, h.len, fun k a e => let ⟨q, h1, h2⟩ := h.row k a e; ⟨q, h1, s _ _ h2⟩⟩
/-- a pair as it stands -/
def pairK (H : Hp) : V → Int × Int
  | .ref a => match H a with
    | some (.tup [.int x, .int y]) => (x, y)
    | _ => (0, 0)
  | _ => (0, 0)
theorem pairK_of {H : Hp} {a : Addr} {q : Int × Int} (h : H a = some (.tup [.int q.1, .int q.2])) : pairK H (.ref a) = q := by
  show (match H a with | some (.tup [.int x, .int y]) => (x, y) | _ => (0, 0)) = q
  rw [h]
theorem PairsAt.pairs {H : Hp} {D : Addr} {as : List Addr} {ps : List (Int × Int)} (h : PairsAt H D as ps) : (∀ x ∈ as.map V.ref, PairV H (pairK H) x) ∧ (as.map V.ref).map (pairK H) = ps := by
  refine ⟨fun x hx => ?_, List.ext_getElem? fun k => ?_⟩
  · obtain ⟨a, ha, rfl⟩ := List.mem_map.mp hx
    obtain ⟨k, hk⟩ := List.mem_iff_getElem?.mp ha
    obtain ⟨q, _, h2⟩ := h.row k a hk
    exact ⟨a, rfl, by rw [pairK_of h2]; exact h2⟩
  · rw [List.map_map, List.getElem?_map]
    cases e : as[k]? with
    | none =>
      have : as.length ≤ k := List.getElem?_eq_none_iff.mp e
      rw [List.getElem?_eq_none_iff.mpr (by rw [← h.len]; exact this)]
      rfl
    | some a =>
      obtain ⟨q, h1, h2⟩ := h.row k a e
      rw [h1]
      exact congrArg some (pairK_of h2)
/-- one more pair -/
theorem PairsAt.snoc {H : Hp} {D a : Addr} {as : List Addr} {ps : List (Int × Int)} {q : Int × Int} (h : PairsAt H D as ps) (ha : H a = some (.tup [.int q.1, .int q.2])) : PairsAt (upd H D (.lst (as.map V.ref ++ [.ref a]))) D (as ++ [a]) (ps ++ [q]) := by
  have nD : ∀ b x, H b = some (.tup x) → b ≠ D := fun b x e z => by
    rw [z, h.lst] at e
    cases e
  refine ⟨by rw [upd_same, List.map_append]; rfl, by rw [List.length_append, List.length_append, h.len]; rfl, fun k b hb => ?_⟩
  by_cases c : k < as.length
  · rw [List.getElem?_append_left c] at hb
    obtain ⟨q', h1, h2⟩ := h.row k b hb
    exact ⟨q', by rw [List.getElem?_append_left (by rw [← h.len]; exact c)]; exact h1, by rw [upd_ne (nD _ _ h2)]; exact h2⟩
  · have hk := get_len hb
    rw [List.length_append, List.length_singleton] at hk
    have ek : k = as.length := by omega
    rw [ek, List.getElem?_append_right (Nat.le_refl _), Nat.sub_self] at hb
    have eb : b = a := (Option.some.inj hb).symm
    refine ⟨q, by rw [ek, h.len, List.getElem?_append_right (Nat.le_refl _), Nat.sub_self]; rfl, ?_⟩
    rw [eb, upd_ne (nD _ _ ha)]
    exact ha
/-- two pairs, neither lesser -/
theorem lexB_eq {p q : Int × Int} (h1 : SrtO.lexB p q = false) (h2 : SrtO.lexB q p = false) : p = q := by
  have a := SrtO.lexB_no.mp h1
  have b := SrtO.lexB_no.mp h2
  exact Prod.ext (by omega) (by omega)
/-- min of the pairs of a heap: its top -/
theorem min_top {K : PySem.W.Frag} {H : Hp} {Q : VK} {D : Addr} {as : List Addr} {ps : List (Int × Int)} (h : PairsAt H D as ps) {q : Int × Int} (hq : q ∈ ps) (hl : ∀ p ∈ ps, SrtO.lexB p q = false) (k : ∀ a, H a = some (.tup [.int q.1, .int q.2]) → Q (.ref a) H) : rMinP K [.ref D] H Q := by
  obtain ⟨h1, h2⟩ := h.pairs
  refine ⟨D, as.map V.ref, pairK H, rfl, SqL.of h.lst, fun e => ?_, h1, fun m hm hmin => ?_⟩
  · rw [← h2, e] at hq
    cases hq
  · obtain ⟨a, rfl, ha⟩ := h1 m hm
    have e1 : pairK H (.ref a) = q := by
      refine lexB_eq (hl _ (by rw [← h2]; exact List.mem_map_of_mem hm)) ?_
      rw [← h2] at hq
      obtain ⟨y, hy, e⟩ := List.mem_map.mp hq
      rw [← e]
      exact hmin y hy
    rw [e1] at ha
    exact k a ha
theorem cut_all {xs : List V} {n : Nat} (h : xs.length ≤ n) : cutV xs none (some (n : Int)) = xs := by
  unfold cutV
  rw [HT.sIx_none, HT.sIx_nat, List.drop_zero, Nat.sub_zero, Nat.min_eq_right h, List.take_length]
/-- the least of the row that is left stands at the top -/
theorem Good.topq {S : Fs} (G : Good S) {j : Nat} {t : Tre} (h : S.ts[j]? = some t) {q : Int × Int} {qs : List (Int × Int)} (p : ((dats t).map datP).Perm (q :: qs)) (hl : ∀ x ∈ qs, SrtO.lexB x q = false) :
    ∃ n l r, t = .nd n l r ∧ q = (n.w, (n.i : Int)) ∧ ((dats (join l r).1).map datP).Perm qs := by
  cases t with
  | nil => exact absurd p.length_eq (by show ¬ 0 = qs.length + 1; omega)
  | nd n l r =>
    have top : ∀ x ∈ (dats (.nd n l r)).map datP, SrtO.lexB x (n.w, (n.i : Int)) = false := fun x hx => by
      obtain ⟨d, hd, rfl⟩ := List.mem_map.mp hx
      refine SrtO.lexB_no.mpr ?_
      rcases HO_top (G.ho _ (get_mem h)) d hd with e | e
      · rw [e]
        show ¬ (n.w < n.w ∨ (n.w = n.w ∧ (n.i : Int) < (n.i : Int)))
        omega
      · show ¬ (d.w < n.w ∨ (d.w = n.w ∧ (d.i : Int) < (n.i : Int)))
        have e2 : n.w < d.w ∨ (n.w = d.w ∧ n.i < d.i) := e
        omega
    have hin : (n.w, (n.i : Int)) ∈ q :: qs := p.mem_iff.mp (List.mem_map.mpr ⟨n.dat, by rw [dats_nd]; exact List.mem_cons_self, rfl⟩)
    have e : q = (n.w, (n.i : Int)) := by
      refine lexB_eq (top q (p.mem_iff.mpr List.mem_cons_self)) ?_
      rcases List.mem_cons.mp hin with z | z
      · rw [← z]
        exact SrtO.lexB_no.mpr (by omega)
      · exact hl _ z
    refine ⟨n, l, r, rfl, e, ?_⟩
    rw [dats_nd, List.map_cons, e] at p
    exact ((joinD l r).map datP).trans p.cons_inv
theorem dats_none {t : Tre} (p : ((dats t).map datP).Perm []) : t = .nil := by
  cases t with
  | nil => rfl
  | nd n l r => exact absurd p.length_eq (by rw [dats_nd]; simp)
theorem eqv_pair (a b : Int) : PyData.eqv (.tuple [.int a, .int b]) (.tuple [.int a, .int b]) = true := by
  simp [PyData.eqv, PyData.eqvAll]
theorem Dp.pair {K : PySem.W.Frag} {H : Hp} {p : Addr} {a b : Int} (h : H p = some (.tup [.int a, .int b])) : Dp K H (.ref p) (.tuple [.int a, .int b]) := .tup (SqT.of h) (.cons (.int a) (.cons (.int b) .nil))
theorem Dp.none {K : PySem.W.Frag} {H : Hp} {p : Addr} (h : H p = some (.lst [])) : Dp K H (.ref p) (.list []) := .lst (SqL.of h) .nil
theorem PairsAt.app {H : Hp} {D X a : Addr} {as : List Addr} {ps : List (Int × Int)} {q : Int × Int} (h : PairsAt H D as ps) (ha : H a = some (.tup [.int q.1, .int q.2])) (hX : H X = some (.lst (as.map V.ref ++ [.ref a]))) : PairsAt H X (as ++ [a]) (ps ++ [q]) := by
  refine ⟨by rw [hX, List.map_append]; rfl, by rw [List.length_append, List.length_append, h.len]; rfl, fun k b hb => ?_⟩
  by_cases c : k < as.length
  · rw [List.getElem?_append_left c] at hb
    obtain ⟨q', h1, h2⟩ := h.row k b hb
    exact ⟨q', by rw [List.getElem?_append_left (by rw [← h.len]; exact c)]; exact h1, h2⟩
  · have hk := get_len hb
    rw [List.length_append, List.length_singleton] at hk
    have ek : k = as.length := by omega
    rw [ek, List.getElem?_append_right (Nat.le_refl _), Nat.sub_self] at hb
    have eb : b = a := (Option.some.inj hb).symm
    exact ⟨q, by rw [ek, h.len, List.getElem?_append_right (Nat.le_refl _), Nat.sub_self]; rfl, by rw [eb]; exact ha⟩
theorem PairsAt.one {H : Hp} {X a : Addr} {q : Int × Int} (ha : H a = some (.tup [.int q.1, .int q.2])) (hX : H X = some (.lst [.ref a])) : PairsAt H X [a] [q] :=
  ⟨hX, rfl, fun k b hb => by
    match k, hb with
    | 0, hb => exact ⟨q, rfl, by rw [← Option.some.inj hb]; exact ha⟩
    | k + 1, hb => simp at hb⟩
theorem cut_from {xs : List V} {n : Nat} : cutV xs (some (n : Int)) none = xs.drop n := by
  unfold cutV
  rw [HT.sIx_none, HT.sIx_nat]
  by_cases c : n ≤ xs.length
  · rw [Nat.min_eq_left c, List.take_of_length_le]
    rw [List.length_drop]
    exact Nat.le_refl _
  · rw [Nat.min_eq_right (by omega), Nat.sub_self, List.take_zero, List.drop_eq_nil_of_le (by omega)]
theorem Good.least {S : Fs} (G : Good S) {j : Nat} {n : Nd} {l r : Tre} (h : S.ts[j]? = some (.nd n l r)) {ps : List (Int × Int)} (p : ((dats (.nd n l r)).map datP).Perm ps) : (n.w, (n.i : Int)) ∈ ps ∧ ∀ q ∈ ps, SrtO.lexB q (n.w, (n.i : Int)) = false := by
  refine ⟨p.mem_iff.mp (List.mem_map.mpr ⟨n.dat, by rw [dats_nd]; exact List.mem_cons_self, rfl⟩), fun q hq => ?_⟩
  obtain ⟨d, hd, rfl⟩ := List.mem_map.mp (p.mem_iff.mpr hq)
  refine SrtO.lexB_no.mpr ?_
  rcases HO_top (G.ho _ (get_mem h)) d hd with e | e
  · rw [e]
    show ¬ (n.w < n.w ∨ (n.w = n.w ∧ (n.i : Int) < (n.i : Int)))
    omega
  · show ¬ (d.w < n.w ∨ (d.w = n.w ∧ (d.i : Int) < (n.i : Int)))
    have e2 : n.w < d.w ∨ (n.w = d.w ∧ n.i < d.i) := e
    omega
/-- a list of new pairs, handed over -/
theorem PairsAt.grow {H0 H H' : Hp} {D : Addr} {as : List Addr} {ps : List (Int × Int)} (h : PairsAt H' D as ps) (hD : H D = none) (hf : ∀ a ∈ as, H a = none) : PairsAt (Sp.grow H0 H H') D as ps :=
  ⟨(grow_new hD).trans h.lst, h.len, fun k a e => let ⟨q, h1, h2⟩ := h.row k a e; ⟨q, h1, (grow_new (hf a (get_mem e))).trans h2⟩⟩
theorem cut_take {xs : List V} {n : Nat} : cutV xs none (some (n : Int)) = xs.take n := by
  unfold cutV
  rw [HT.sIx_none, HT.sIx_nat, List.drop_zero, Nat.sub_zero]
  by_cases c : n ≤ xs.length
  · rw [Nat.min_eq_left c]
  · rw [Nat.min_eq_right (by omega), List.take_length, List.take_of_length_le (by omega)]
/-! ### the field's methods -/
section
variable {P : Program} {w : World} {K : PySem.W.Frag} {mg : Str → Option Value} {base : Heap}
def sp_Field_init (C D : Addr) : Sp := fun vs H Q _ => ∃ (H0 : Hp) (p dx : Addr), vs = [.ref p] ∧ H p = some (.ins D dx []) ∧ Same H0 H ∧ H0 p = none ∧ ∀ H', Fd C D H0 H' p ⟨[], [], 0⟩ → Q .non H'
theorem ok_Field_init (T : Txt K mg) : FnOk P w K mg base CX0 1 T.a_Field_init T.d_Field_init ["self"] (sp_Field_init T.c_Node T.c_Field) := by
  refine T.F_Field_init.ok sc_Field_init (fun vs H Q E h => ?_) (fun cdv A outer s H vs Q E hr h => ?_)
  · obtain ⟨H0, p, dx, rfl, _⟩ := h
    rfl
  · obtain ⟨H0, p, dx, rfl, hp, sm, p0, k⟩ := h
    refine ⟨_, (pss_cons (ps_fld (pv 0) (pe_lst pa_nil) rfl)
  (pss_cons (ps_fld (pv 0) (pe_lst pa_nil) rfl)
  (pss_one (ps_fld (pv 0) pe_int rfl)))), ?_⟩
    refine ⟨Nat.zero_le _, fun lt hlt => ?_⟩
    have n1 : p ≠ lt := ne_of_none hp hlt
    refine ⟨_, rfl, p, T.c_Field, dx, [], rfl, (by rw [upd_ne n1]; exact hp), T.cl_Field, T.n_Field_tops, (by show 0 < 1000; decide), ?_⟩
    refine ⟨Nat.zero_le _, fun ln hln => ?_⟩
    have n2 : p ≠ ln := fun e => by
      rw [← e, upd_same] at hln
      cases hln
    have n3 : lt ≠ ln := fun e => by
      rw [← e, upd_ne n1.symm, upd_same] at hln
      cases hln
    have hln0 : H ln = none := by
      rw [upd_ne n2.symm, upd_ne n3.symm] at hln
      exact hln
    refine ⟨_, rfl, p, T.c_Field, dx, _, rfl, (by rw [upd_ne n2, upd_same]), T.cl_Field, T.n_Field_nodes, (by rw [pf_nil]; show 1 < 1000; decide), ?_⟩
    refine ⟨_, rfl, p, T.c_Field, dx, _, rfl, upd_same, T.cl_Field, T.n_Field_work, (by rw [pf_nil]; show (putF ("_nodes" : Str) _ _).length < 1000; exact Nat.lt_of_le_of_lt (length_putF _ _ _) (by show 2 < 1000; decide)), ?_⟩
    refine k _ ⟨Good.start, dx, lt, ln, fun b o hb => ?_, p0, sm.free hlt, sm.free hln0, ?_, ?_, ?_, n3, fun t ht => by cases ht⟩
    · have hb2 := sm b o hb
      have c1 : b ≠ p := fun e => by
        rw [e, p0] at hb
        cases hb
      rw [upd_ne c1, upd_ne c1, upd_ne (ne_of_none hb2 hln0), upd_ne c1, upd_ne (ne_of_none hb2 hlt)]
      exact hb2
    · rw [upd_same]
      exact congrArg (fun q => some (HO.ins T.c_Field dx q)) ff_new
    · rw [upd_ne n1.symm, upd_ne n1.symm, upd_ne n3, upd_ne n1.symm, upd_same]
      rfl
    · rw [upd_ne n2.symm, upd_ne n2.symm, upd_same]
/-- heap() -/
def sp_Field_heap (C D : Addr) : Sp := fun vs H Q _ => ∃ (H0 : Hp) (p : Addr) (S : Fs), vs = [.ref p] ∧ Fd C D H0 H p S ∧ S.ts.length ≤ 100000 - 1 ∧ ∀ H', Fd C D H0 H' p ⟨S.ts ++ [.nil], S.ns, S.wk⟩ → Q (.int (S.ts.length : Int)) H'
theorem ok_Field_heap (T : Txt K mg) : FnOk P w K mg base CX0 1 T.a_Field_heap T.d_Field_heap ["self"] (sp_Field_heap T.c_Node T.c_Field) := by
  refine T.F_Field_heap.ok sc_Field_heap (fun vs H Q E h => ?_) (fun cdv A outer s H vs Q E hr h => ?_)
  · obtain ⟨H0, p, S, rfl, _⟩ := h
    rfl
  · obtain ⟨H0, p, S, rfl, ⟨G, dx, lt, ln, F⟩, hlen, k⟩ := h
    refine ⟨_, (pss_cons (ps_expr (pe_bm PySem.F.plainAttrs_list PySem.F.slot_list_append PySem.F.type_list_append mt_append (pe_fld (pv 0) rfl) (pa_cons pe_non pa_nil)))
  (pss_one (ps_ret (pe_op op_sub (pe_callB call_len_seq (by rfl) T.z_len PySem.boot_len (pa_cons (pe_fld (pv 0) rfl) pa_nil)) pe_int)))), ?_⟩
    refine ⟨_, rfl, p, T.c_Field, dx, _, _, rfl, F.ob, T.cl_Field, T.n_Field_tops, ff_tops, .inl ⟨rfl, _, SqL.of F.lts⟩, lt, _, _, rfl, rfl, F.lts, (by rw [List.length_map]; exact Evl.sz_lt (by omega)), ?_⟩
    have n1 := F.pt
    have f : Frame [lt] H (upd H lt (.lst (S.ts.map ref ++ [.non]))) := Frame.wr (List.mem_singleton.mpr rfl)
    have e1 : (upd H lt (.lst (S.ts.map ref ++ [.non]))) p = some (.ins T.c_Field dx (ff lt ln S.wk)) := by
      rw [upd_ne n1.1]
      exact F.ob
    refine ⟨_, rfl, p, T.c_Field, dx, _, _, rfl, e1, T.cl_Field, T.n_Field_tops, ff_tops, lt, _, rfl, .inl (SqL.of upd_same), _, _, rfl, rfl, ?_⟩
    have F' : Fd T.c_Node T.c_Field H0 (upd H lt (.lst (S.ts.map ref ++ [.non]))) p ⟨S.ts ++ [.nil], S.ns, S.wk⟩ := by
      refine ⟨G.heap, dx, lt, ln, fun b o hb => ?_, F.p0, F.t0, F.n0, e1, ?_, ?_, F.ne, fun t ht => ?_⟩
      · rw [upd_ne (fun e => by rw [e, F.t0] at hb; cases hb)]
        exact F.same b o hb
      · rw [upd_same]
        show _ = some (HO.lst ((S.ts ++ [Tre.nil]).map ref))
        rw [List.map_append]
        rfl
      · rw [upd_ne F.ne.symm]
        exact F.lns
      · rcases List.mem_append.mp ht with z | z
        · have q := F.tr t z
          exact ⟨q.1.keep f fun b hb y => (F.apart q.1).2.1 (by rw [← List.mem_singleton.mp y]; exact hb), q.2⟩
        · rw [List.mem_singleton.mp z]
          exact ⟨trivial, fun b hb => by cases hb⟩
    have q := k _ F'
    have e2 : (((S.ts.map ref ++ [.non] : List V).length : Int) - 1) = (S.ts.length : Int) := by
      rw [List.length_append, List.length_map, List.length_singleton]
      omega
    rw [← e2] at q
    exact q
/-- _check_heap(heap) -/
def sp_check (C D eN : Addr) : Sp := fun vs H Q E => ∃ (H0 : Hp) (p dx lt ln : Addr) (S : Fs) (h : Int), vs = [.ref p, .int h] ∧ FAt C D H0 H p dx lt ln S ∧ (0 ≤ h → h < (S.ts.length : Int) → Q .non H) ∧ (¬ (0 ≤ h ∧ h < (S.ts.length : Int)) → h.natAbs.log2 < 1920 ∧ E (.ref eN) none H)
theorem ok_check (T : Txt K mg) : FnOk P w K mg base (L2.CX P w) 1 T.a_Field_check_heap T.d_Field_check_heap ["self", "heap"] (sp_check T.c_Node T.c_Field T.e_NoHeap) := by
  refine T.F_Field_check_heap.okX sc_Field_check_heap (fun vs H Q E h => ?_) (fun cdv A outer s H vs Q E hr h => ?_)
  · obtain ⟨H0, p, dx, lt, ln, S, h, rfl, _⟩ := h
    rfl
  · obtain ⟨H0, p, dx, lt, ln, S, h, rfl, F, k1, k2⟩ := h
    refine ⟨_, (pss_one (ps_if (pt_not (pt_chain op_le op_lt pe_int (pv 1) (pe_callB call_len_seq (by rfl) T.z_len PySem.boot_len (pa_cons (pe_fld (pv 0) rfl) pa_nil))))
  (pss_one (ps_raise rfl (takes_of rfl rfl rfl rfl) (pmk_ownA PySem.F.excBase_ValueError T.xNoHeap T.gNoHeap T.kNoHeap (raises_own T.bNoHeap T.tNoHeap) rfl (pa_cons (pe_joined (.cons pe_str (.cons (pe_fmt (pv 1)) .nil))) pa_nil))))
  pss_nil)), ?_⟩
    have bad : ¬ (0 ≤ h ∧ h < (S.ts.length : Int)) → (tCons (fun σ H Q => tJs [tC (.str "there is no heap "), tFmt (tVar 1)] Str.empty σ H fun out H1 => Q (.str out) H1) tNil) (start N_Field_check_heap [.ref p, .int h]) H (fun vs H1 => vs.length ≤ sizeLine ∧ E (.ref T.e_NoHeap) none H1) := fun hb => by
      obtain ⟨hl, e⟩ := k2 hb
      have w1 : (Str.empty ++ ("there is no heap " : Str)).length ≤ 17 := by decide +kernel
      exact ⟨_, rfl, fits (Nat.le_trans w1 (by decide)), _, rfl, .inr ⟨h, rfl, hl, _, rfl, fits (Nat.le_trans (app_fits w1 (txt_len hl)) (by decide)), (by show 1 ≤ sizeLine; decide), e⟩⟩
    refine ⟨_, rfl, _, _, rfl, rfl, _, rfl, t_2 (fun c => ?_) (fun c => ?_)⟩
    · refine ⟨_, rfl, p, T.c_Field, dx, _, _, rfl, F.ob, T.cl_Field, T.n_Field_tops, ff_tops, lt, _, rfl, .inl (SqL.of F.lts), _, _, rfl, rfl, _, rfl, ?_⟩
      by_cases c2 : h < (S.ts.length : Int)
      · exact n_yes (by rw [List.length_map]; exact c2) (k1 c c2)
      · exact n_no (by rw [List.length_map]; exact c2) (bad fun z => c2 z.2)
    · exact ⟨_, rfl, iteT (bad fun z => c z.1)⟩
/-- _plant(heap, one, other) -/
def sp_plant (C D : Addr) : Sp := fun vs H Q _ => ∃ (p dx lt ln : Addr) (wk : Int) (ls : List V) (j : Nat) (s t : Tre) (x y : V), vs = [.ref p, .int (j : Int), ref s, ref t] ∧ H p = some (.ins D dx (ff lt ln wk)) ∧ H lt = some (.lst ls) ∧ j < ls.length ∧ TAt C H s x ∧ TAt C H t y ∧ (Tre.addrs s ++ Tre.addrs t).Nodup ∧ s.spine + t.spine ≤ 20 ∧
  ∀ H', TAt C H' (join s t).1 .non → H' lt = some (.lst (ls.set j (ref (join s t).1))) → Frame (lt :: (Tre.addrs s ++ Tre.addrs t)) H H' → Q (.int ((join s t).2 : Int)) H'
theorem ok_plant (T : Txt K mg) : FnOk P w K mg base CX0 25 T.a_Field_plant T.d_Field_plant ["self", "heap", "one", "other"] (sp_plant T.c_Node T.c_Field) := by
  have G_joined : FnOk P w K mg base CX0 24 _ _ _ _ := ok_joined T 20
  refine T.F_Field_plant.ok sc_Field_plant (fun vs H Q E h => ?_) (fun cdv A outer s H vs Q E hr h => ?_)
  · obtain ⟨p, dx, lt, ln, wk, ls, j, s, t, x, y, rfl, _⟩ := h
    rfl
  · obtain ⟨p, dx, lt, ln, wk, ls, j, s, t, x, y, rfl, hp, hlt, hj, hs, ht, hN, hd, k⟩ := h
    refine ⟨_, (pss_cons (ps_asg (pe_call G_joined hr rfl T.g_joined T.F_joined.kp T.b_joined .nil pass0 (pa_cons (pv 2) (pa_cons (pv 3) pa_nil))) (pg_tup (by rfl) (pgs_cons (pg_name (i := 4) sc_Field_plant.nd rfl (.inl rfl)) (pgs_cons (pg_name (i := 5) sc_Field_plant.nd rfl (.inl rfl)) pgs_nil))))
  (pss_cons (ps_asg (pv 4) (pg_sub (pe_fld (pv 0) rfl) (pv 1) set_list))
  (pss_one (ps_ret (pv 5))))), ?_⟩
    refine ⟨_, rfl, _, rfl, s, t, x, y, rfl, hs, ht, hN, hd, fun H1 u h1 hu hu1 f1 => ?_⟩
    refine ⟨u, _, rfl, SqT.of hu1, rfl, _, _, rfl, _, _, rfl, rfl, ?_⟩
    have np : ∀ {t : Tre} {x : V}, TAt T.c_Node H t x → p ∉ Tre.addrs t ∧ lt ∉ Tre.addrs t := fun h => by
      refine ⟨fun z => ?_, fun z => ?_⟩
      · obtain ⟨d, i, w, hh, x, l, r, k, e⟩ := h.nfs p z
        rw [hp] at e
        exact ff_ne_nf (Option.some.inj e)
      · obtain ⟨d, i, w, hh, x, l, r, k, e⟩ := h.nfs lt z
        rw [hlt] at e
        cases e
    have p1 : H1 p = some (.ins T.c_Field dx (ff lt ln wk)) := f1 _ _ hp fun z => (List.mem_append.mp z).elim (np hs).1 (np ht).1
    have l1 : H1 lt = some (.lst ls) := f1 _ _ hlt fun z => (List.mem_append.mp z).elim (np hs).2 (np ht).2
    refine ⟨_, rfl, _, rfl, p, T.c_Field, dx, _, _, rfl, p1, T.cl_Field, T.n_Field_tops, ff_tops, _, rfl, lt, _, _, j, rfl, rfl, l1, Evl.ixN_nat hj, ?_⟩
    refine ⟨_, rfl, ?_⟩
    have fr : Frame [lt] H1 (upd H1 lt (.lst (ls.set j (ref (join s t).1)))) := Frame.wr (List.mem_singleton.mpr rfl)
    refine k _ (h1.keep fr fun b hb z => ?_) upd_same ((f1.mono fun b hb => List.mem_cons_of_mem _ hb).trans (fr.mono fun b hb => by rw [List.mem_singleton.mp hb]; exact List.mem_cons_self))
    have hb2 := (join_addrs s t).mem_iff.mp hb
    rw [List.mem_singleton.mp z] at hb2
    exact (List.mem_append.mp hb2).elim (np hs).2 (np ht).2
/-- put(heap, weight) -/
def sp_put (C D eN : Addr) : Sp := fun vs H Q E => ∃ (H0 : Hp) (p : Addr) (S : Fs) (h w : Int), vs = [.ref p, .int h, .int w] ∧ Fd C D H0 H p S ∧ S.ns.length < 1000 ∧
  (∀ j : Nat, h = (j : Int) → j < S.ts.length → ∀ H' a, a ∉ S.ts.flatMap Tre.addrs → Fd C D H0 H' p (S.put j a w) → Q (.int (S.ns.length : Int)) H') ∧ (¬ (0 ≤ h ∧ h < (S.ts.length : Int)) → h.natAbs.log2 < 1920 ∧ E (.ref eN) none H)
theorem ok_put (T : Txt K mg) : FnOk P w K mg base (L2.CX P w) 26 T.a_Field_put T.d_Field_put ["self", "heap", "weight"] (sp_put T.c_Node T.c_Field T.e_NoHeap) := by
  have G_Field_check_heap : FnOk P w K mg base (L2.CX P w) 25 _ _ _ _ := (ok_check T).mono (by decide)
  have G_Node_init : FnOk P w K mg base CX0 24 _ _ _ _ := (ok_Node_init T).mono (by decide)
  have G_Field_plant : FnOk P w K mg base CX0 25 _ _ _ _ := ok_plant T
  refine T.F_Field_put.okX sc_Field_put (fun vs H Q E h => ?_) (fun cdv A outer s H vs Q E hr h => ?_)
  · obtain ⟨H0, p, S, h, w, rfl, _⟩ := h
    rfl
  · obtain ⟨H0, p, S, h, w, rfl, ⟨G, dx, lt, ln, F⟩, hlen, k1, k2⟩ := h
    refine ⟨_, (pss_cons (ps_expr (pe_meth (pv 0) T.cl_Field T.m_Field_check_heap G_Field_check_heap hr T.b_Field_check_heap .nil (E := E) (passes_call (takes_of rfl rfl rfl rfl) (fun _ _ _ _ h => h)) (pa_cons (pv 1) pa_nil)))
  (pss_cons (ps_set (i := 3) sc_Field_put.nd rfl (.inl rfl) (pe_make T.mk_Node G_Node_init hr rfl T.gC_Node T.b_Node_init .nil pass0 (pa_cons (pe_callB call_len_seq (by rfl) T.z_len PySem.boot_len (pa_cons (pe_fld (pv 0) rfl) pa_nil)) (pa_cons (pv 2) (pa_cons (pv 1) pa_nil)))))
  (pss_cons (ps_expr (pe_bm PySem.F.plainAttrs_list PySem.F.slot_list_append PySem.F.type_list_append mt_append (pe_fld (pv 0) rfl) (pa_cons (pv 3) pa_nil)))
  (pss_cons (ps_fld (pv 0) (pe_meth (pv 0) T.cl_Field T.m_Field_plant G_Field_plant hr T.b_Field_plant .nil pass0 (pa_cons (pv 1) (pa_cons (pe_ix ix_list (pe_fld (pv 0) rfl) (pv 1) (fun _ _ => rfl)) (pa_cons (pv 3) pa_nil)))) rfl)
  (pss_one (ps_ret (pe_fld (pv 3) rfl))))))), ?_⟩
    refine ⟨_, rfl, p, dx, _, rfl, F.ob, ff_no (by decide +kernel) (by decide +kernel) (by decide +kernel), _, rfl, H0, p, dx, lt, ln, S, h, rfl, F, fun h0 h1 => ?_, k2⟩
    obtain ⟨j, rfl⟩ := Int.eq_ofNat_of_zero_le h0
    have hj : j < S.ts.length := by omega
    obtain ⟨s, hs⟩ : ∃ s, S.ts[j]? = some s := ⟨S.ts[j], List.getElem?_eq_getElem hj⟩
    -- node = Node(len(self._nodes), weight, heap)
    refine ⟨_, rfl, p, T.c_Field, dx, _, _, rfl, F.ob, T.cl_Field, T.n_Field_nodes, ff_nodes, ln, _, rfl, .inl (SqL.of F.lns), _, rfl, _, rfl, ?_⟩
    intro a da ha hda hne
    refine ⟨a, da, (S.ns.length : Int), w, (j : Int), rfl, upd_same, fun H1 h1 f1 => ⟨rfl, ?_⟩⟩
    have keep : ∀ b o, H b = some o → H1 b = some o := fun b o e => f1 b o (by rw [upd_ne (ne_of_none e ha), upd_ne (ne_of_none e hda)]; exact e) (fun z => ne_of_none e ha (List.mem_singleton.mp z))
    have sm1 : Same H H1 := keep
    have an : a ∉ S.ts.flatMap Tre.addrs := fun z => by
      obtain ⟨t, ht, hb⟩ := List.mem_flatMap.mp z
      exact (F.tr t ht).1.ne ha hb
    have a0 : H0 a = none := F.same.free ha
    have npa : p ≠ a := ne_of_none F.ob ha
    have nla : lt ≠ a := ne_of_none F.lts ha
    have nna : ln ≠ a := ne_of_none F.lns ha
    -- self._nodes.append(node)
    refine ⟨_, rfl, p, T.c_Field, dx, _, _, rfl, keep _ _ F.ob, T.cl_Field, T.n_Field_nodes, ff_nodes, .inl ⟨rfl, _, SqL.of (keep _ _ F.lns)⟩, _, rfl, ln, _, _, rfl, rfl, keep _ _ F.lns, Evl.sz_lt (by omega), ?_⟩
    have n1 := F.pt
    generalize hH2 : upd H1 ln (.lst (S.ns ++ [.ref a])) = H2
    have f2 : Frame [ln] H1 H2 := by
      rw [← hH2]
      exact Frame.wr (List.mem_singleton.mpr rfl)
    have p2 : H2 p = some (.ins T.c_Field dx (ff lt ln S.wk)) := f2 _ _ (keep _ _ F.ob) (fun z => n1.2 (List.mem_singleton.mp z))
    have t2 : H2 lt = some (.lst (S.ts.map ref)) := f2 _ _ (keep _ _ F.lts) (fun z => F.ne (List.mem_singleton.mp z))
    have a2 : H2 a = some (.ins T.c_Node da (nf (S.ns.length : Int) w (j : Int) .non .non .non 1)) := f2 _ _ h1 (fun z => nna (List.mem_singleton.mp z).symm)
    have l2 : H2 ln = some (.lst (S.ns ++ [.ref a])) := by rw [← hH2, upd_same]
    have sT : TAt T.c_Node H2 s .non := ((F.tr s (get_mem hs)).1.same sm1).keep f2 fun b hb z => (F.apart (F.tr s (get_mem hs)).1).2.2 (by rw [← List.mem_singleton.mp z]; exact hb)
    have lT : TAt T.c_Node H2 (leaf a S.ns.length w j) .non := ⟨⟨da, a2⟩, trivial, trivial⟩
    have sub : ∀ b ∈ Tre.addrs s, b ∈ S.ts.flatMap Tre.addrs := fun b hb => List.mem_flatMap.mpr ⟨s, get_mem hs, hb⟩
    have hNs : (Tre.addrs s).Nodup := by
      obtain ⟨X, Y, eS, _⟩ := at_split hs
      have hnd := G.nd
      rw [eS] at hnd
      exact (List.nodup_append.mp (flat_split.nodup_iff.mp hnd)).1
    have hN : (Tre.addrs s ++ Tre.addrs (leaf a S.ns.length w j)).Nodup := by
      refine List.nodup_append.mpr ⟨hNs, (by show [a].Nodup; simp), fun x hx y hy e => ?_⟩
      have e2 : y = a := List.mem_singleton.mp hy
      rw [e, e2] at hx
      exact an (sub a hx)
    have hsp : s.spine + (leaf a S.ns.length w j).spine ≤ 20 := by
      have := spine_le (G.lo s (get_mem hs)) (by have := G.size hs; have := G.len; omega)
      show s.spine + (0 + 1) ≤ 20
      omega
    -- self._work = self._plant(heap, self._tops[heap], node)
    refine ⟨_, rfl, p, dx, _, rfl, p2, ff_no (by decide +kernel) (by decide +kernel) (by decide +kernel), _, rfl, _, rfl, p, T.c_Field, dx, _, _, rfl, p2, T.cl_Field, T.n_Field_tops, ff_tops, _, rfl, lt, _, _, _, rfl, rfl, SqL.of t2, at_of (j := j) rfl (by rw [List.getElem?_map, hs]; rfl), _, rfl, ?_⟩
    refine ⟨p, dx, lt, ln, S.wk, _, j, s, leaf a S.ns.length w j, .non, .non, rfl, p2, t2, by rw [List.length_map]; exact hj, sT, lT, hN, hsp, fun H3 t3 l3 f3 => ?_⟩
    have ap := F.apart (F.tr s (get_mem hs)).1
    have out : ∀ b, b ∉ Tre.addrs s → b ≠ a → b ≠ lt → b ∉ lt :: (Tre.addrs s ++ Tre.addrs (leaf a S.ns.length w j)) := fun b h1 h2 h3 z => by
      rcases List.mem_cons.mp z with z | z
      · exact h3 z
      · rcases List.mem_append.mp z with z | z
        · exact h1 z
        · exact h2 (List.mem_singleton.mp z)
    have p3 : H3 p = some (.ins T.c_Field dx (ff lt ln S.wk)) := f3 _ _ p2 (out p ap.1 npa n1.1)
    have ln3 : H3 ln = some (.lst (S.ns ++ [.ref a])) := f3 _ _ l2 (out ln ap.2.2 nna F.ne.symm)
    refine ⟨_, rfl, p, T.c_Field, dx, _, rfl, p3, T.cl_Field, T.n_Field_work, ff_len, ?_⟩
    rw [ff_put]
    generalize hH4 : upd H3 p (.ins T.c_Field dx (ff lt ln ((join s (leaf a S.ns.length w j)).2 : Int))) = H4
    have f4 : Frame [p] H3 H4 := by
      rw [← hH4]
      exact Frame.wr (List.mem_singleton.mpr rfl)
    have am : a ∈ Tre.addrs (join s (leaf a S.ns.length w j)).1 := (join_addrs _ _).mem_iff.mpr (List.mem_append_right _ (List.mem_singleton.mpr rfl))
    have pn : p ∉ Tre.addrs (join s (leaf a S.ns.length w j)).1 := fun z => (List.mem_append.mp ((join_addrs _ _).mem_iff.mp z)).elim ap.1 fun q => npa (List.mem_singleton.mp q)
    have t4 : TAt T.c_Node H4 (join s (leaf a S.ns.length w j)).1 .non := t3.keep f4 fun b hb z => pn (by rw [← List.mem_singleton.mp z]; exact hb)
    -- return node.thing
    obtain ⟨i', w', h', x', l', r', k', dx', e4⟩ : ∃ i' w' h' x' l' r' k' dx', H4 a = some (.ins T.c_Node dx' (nf i' w' h' x' l' r' k')) ∧ i' = (S.ns.length : Int) := by
      have key : ∀ (t : Tre) (ab : V), TAt T.c_Node H4 t ab → ∀ d ∈ dats t, ∃ w' h' x' l' r' k' dx', H4 d.a = some (.ins T.c_Node dx' (nf (d.i : Int) w' h' x' l' r' k')) := by
        intro t
        induction t with
        | nil => intro ab _ d hd
                 cases hd
        | nd n l r ihl ihr =>
          intro ab h d hd
          rw [dats_nd] at hd
          rcases List.mem_cons.mp hd with z | z
          · rw [z]
            obtain ⟨dd, e⟩ := h.1
            exact ⟨_, _, _, _, _, _, dd, e⟩
          · rcases List.mem_append.mp z with z | z
            · exact ihl _ h.2.1 d z
            · exact ihr _ h.2.2 d z
      obtain ⟨w', h', x', l', r', k', dx', e⟩ := key _ _ t4 ⟨a, S.ns.length, w, (j : Int)⟩ ((joinD _ _).mem_iff.mpr (List.mem_append_right _ (List.mem_singleton.mpr rfl)))
      exact ⟨_, w', h', x', l', r', k', dx', e, rfl⟩
    obtain ⟨e4, ei⟩ := e4
    refine ⟨_, rfl, a, T.c_Node, dx', _, _, rfl, e4, T.cl_Node, T.n_Node_thing, nf_thing, ?_⟩
    rw [ei]
    refine k1 j rfl hj H4 a an ⟨G.put hs hlen an w, dx, lt, ln, ?_⟩
    have es := getD_of hs
    unfold Fs.put
    rw [es]
    refine F.repl G.nd hs [a] (fun b hb => by rw [List.mem_singleton.mp hb]; exact ⟨a0, an⟩) ?_ ?_ ?_ ?_ t4 fun b hb => ?_
    · have m1 : Frame (p :: lt :: ln :: (Tre.addrs s ++ [a])) H1 H2 := f2.mono fun b hb => by rw [List.mem_singleton.mp hb]; simp
      have m2 : Frame (p :: lt :: ln :: (Tre.addrs s ++ [a])) H2 H3 := f3.mono fun b hb => by
        rcases List.mem_cons.mp hb with z | z
        · rw [z]
          simp
        · exact List.mem_cons_of_mem _ (List.mem_cons_of_mem _ (List.mem_cons_of_mem _ z))
      have m3 : Frame (p :: lt :: ln :: (Tre.addrs s ++ [a])) H3 H4 := f4.mono fun b hb => by rw [List.mem_singleton.mp hb]; exact List.mem_cons_self
      exact (((Frame.same sm1).trans m1).trans m2).trans m3
    · rw [← hH4, upd_same]
    · rw [f4 _ _ l3 fun z => n1.1 (List.mem_singleton.mp z).symm, List.map_set]
    · exact f4 _ _ ln3 fun z => n1.2 (List.mem_singleton.mp z).symm
    · exact (List.mem_append.mp ((join_addrs _ _).mem_iff.mp hb)).imp id id
end
section
variable {P : Program} {w : World} {K : PySem.W.Frag} {mg : Str → Option Value} {base : Heap}
/-- h is a heap's number -/
abbrev InH (S : Fs) (h : Int) : Prop := 0 ≤ h ∧ h < (S.ts.length : Int)
/-- _top(heap) -/
def sp_top (C D eN eB : Addr) : Sp := fun vs H Q E => ∃ (H0 : Hp) (p dx lt ln : Addr) (S : Fs) (h : Int), vs = [.ref p, .int h] ∧ FAt C D H0 H p dx lt ln S ∧ h.natAbs.log2 < 1920 ∧
  (∀ (j : Nat) (n : Nd) (l r : Tre), h = (j : Int) → S.ts[j]? = some (.nd n l r) → Q (.ref n.a) H) ∧ (∀ j : Nat, h = (j : Int) → S.ts[j]? = some .nil → E (.ref eB) none H) ∧ (¬ InH S h → E (.ref eN) none H)
theorem ok_top (T : Txt K mg) : FnOk P w K mg base (L2.CX P w) 2 T.a_Field_top T.d_Field_top ["self", "heap"] (sp_top T.c_Node T.c_Field T.e_NoHeap T.e_Bare) := by
  have G_Field_check_heap : FnOk P w K mg base (L2.CX P w) 1 _ _ _ _ := ok_check T
  refine T.F_Field_top.okX sc_Field_top (fun vs H Q E h => ?_) (fun cdv A outer s H vs Q E hr h => ?_)
  · obtain ⟨H0, p, dx, lt, ln, S, h, rfl, _⟩ := h
    rfl
  · obtain ⟨H0, p, dx, lt, ln, S, h, rfl, F, hl, k1, k2, k3⟩ := h
    refine ⟨_, (pss_cons (ps_expr (pe_meth (pv 0) T.cl_Field T.m_Field_check_heap G_Field_check_heap hr T.b_Field_check_heap .nil (E := E) (passes_call (takes_of rfl rfl rfl rfl) (fun _ _ _ _ h => h)) (pa_cons (pv 1) pa_nil)))
  (pss_cons (ps_set (i := 2) sc_Field_top.nd rfl (.inl rfl) (pe_ix ix_list (pe_fld (pv 0) rfl) (pv 1) (fun _ _ => rfl)))
  (pss_cons (ps_if (pt_cmpR op_isN (pv 2) pe_non (nomark _))
  (pss_one (ps_raise rfl (takes_of rfl rfl rfl rfl) (pmk_ownA PySem.F.excBase_ValueError T.xBare T.gBare T.kBare (raises_own T.bBare T.tBare) rfl (pa_cons (pe_joined (.cons pe_str (.cons (pe_fmt (pv 1)) (.cons pe_str .nil)))) pa_nil))))
  pss_nil)
  (pss_one (ps_ret (pv 2)))))), ?_⟩
    refine ⟨_, rfl, p, dx, _, rfl, F.ob, ff_no (by decide +kernel) (by decide +kernel) (by decide +kernel), _, rfl, H0, p, dx, lt, ln, S, h, rfl, F, fun h0 h1 => ?_, fun hb => ⟨hl, k3 hb⟩⟩
    obtain ⟨j, rfl⟩ := Int.eq_ofNat_of_zero_le h0
    have hj : j < S.ts.length := by omega
    obtain ⟨s, hs⟩ : ∃ s, S.ts[j]? = some s := ⟨S.ts[j], List.getElem?_eq_getElem hj⟩
    refine ⟨_, rfl, p, T.c_Field, dx, _, _, rfl, F.ob, T.cl_Field, T.n_Field_tops, ff_tops, _, rfl, lt, _, _, _, rfl, rfl, SqL.of F.lts, at_of (j := j) rfl (by rw [List.getElem?_map, hs]; rfl), ?_⟩
    refine ⟨_, rfl, rfl, _, rfl, ?_⟩
    cases s with
    | nil =>
      have w1 : (Str.empty ++ ("heap " : Str)).length ≤ 5 := by decide +kernel
      have w2 : (" is empty" : Str).length ≤ 9 := by decide +kernel
      refine t_yes rfl ⟨_, rfl, fits (Nat.le_trans w1 (by decide)), _, rfl, .inr ⟨(j : Int), rfl, hl, _, rfl, fits (Nat.le_trans (app_fits w1 (txt_len hl)) (by decide)), _, rfl, fits (Nat.le_trans (app_fits (app_fits w1 (txt_len hl)) w2) (by decide)), (by show 1 ≤ sizeLine; decide), k2 j rfl hs⟩⟩
    | nd n l r => exact t_no (by intro z; cases z) ⟨_, rfl, k1 j n l r rfl hs⟩
/-- _node(thing) -/
def sp_node (C D eT : Addr) : Sp := fun vs H Q E => ∃ (H0 : Hp) (p dx lt ln : Addr) (S : Fs) (i : Int), vs = [.ref p, .int i] ∧ FAt C D H0 H p dx lt ln S ∧ Good S ∧ i.natAbs.log2 < 1920 ∧
  (∀ (k : Nat) (a : Addr), i = (k : Int) → S.ns[k]? = some (.ref a) → Q (.ref a) H) ∧ ((∀ (k : Nat) (a : Addr), i = (k : Int) → S.ns[k]? ≠ some (.ref a)) → E (.ref eT) none H)
theorem ok_node (T : Txt K mg) : FnOk P w K mg base (L2.CX P w) 1 T.a_Field_node T.d_Field_node ["self", "thing"] (sp_node T.c_Node T.c_Field T.e_NoThing) := by
  refine T.F_Field_node.okX sc_Field_node (fun vs H Q E h => ?_) (fun cdv A outer s H vs Q E hr h => ?_)
  · obtain ⟨H0, p, dx, lt, ln, S, i, rfl, _⟩ := h
    rfl
  · obtain ⟨H0, p, dx, lt, ln, S, i, rfl, F, G, hl, k1, k2⟩ := h
    refine ⟨_, (pss_cons (ps_if (pt_not (pt_chain op_le op_lt pe_int (pv 1) (pe_callB call_len_seq (by rfl) T.z_len PySem.boot_len (pa_cons (pe_fld (pv 0) rfl) pa_nil))))
  (pss_one (ps_raise rfl (takes_of rfl rfl rfl rfl) (pmk_ownA PySem.F.excBase_ValueError T.xNoThing T.gNoThing T.kNoThing (raises_own T.bNoThing T.tNoThing) rfl (pa_cons (pe_joined (.cons pe_str (.cons (pe_fmt (pv 1)) .nil))) pa_nil))))
  pss_nil)
  (pss_cons (ps_set (i := 2) sc_Field_node.nd rfl (.inl rfl) (pe_ix ix_list (pe_fld (pv 0) rfl) (pv 1) (fun _ _ => rfl)))
  (pss_cons (ps_if (pt_cmpR op_isN (pv 2) pe_non (nomark _))
  (pss_one (ps_raise rfl (takes_of rfl rfl rfl rfl) (pmk_ownA PySem.F.excBase_ValueError T.xNoThing T.gNoThing T.kNoThing (raises_own T.bNoThing T.tNoThing) rfl (pa_cons (pe_joined (.cons pe_str (.cons (pe_fmt (pv 1)) (.cons pe_str .nil)))) pa_nil))))
  pss_nil)
  (pss_one (ps_ret (pv 2)))))), ?_⟩
    have w1 : (Str.empty ++ ("there is no thing " : Str)).length ≤ 18 := by decide +kernel
    have w2 : (Str.empty ++ ("thing " : Str)).length ≤ 6 := by decide +kernel
    have w3 : (" is gone" : Str).length ≤ 8 := by decide +kernel
    have bad : E (.ref T.e_NoThing) none H → (tCons (fun σ H Q => tJs [tC (.str "there is no thing "), tFmt (tVar 1)] Str.empty σ H fun out H1 => Q (.str out) H1) tNil) (start N_Field_node [.ref p, .int i]) H (fun vs H1 => vs.length ≤ sizeLine ∧ E (.ref T.e_NoThing) none H1) := fun e =>
      ⟨_, rfl, fits (Nat.le_trans w1 (by decide)), _, rfl, .inr ⟨i, rfl, hl, _, rfl, fits (Nat.le_trans (app_fits w1 (txt_len hl)) (by decide)), (by show 1 ≤ sizeLine; decide), e⟩⟩
    refine ⟨_, rfl, _, _, rfl, rfl, _, rfl, t_2 (fun c => ?_) (fun c => ?_)⟩
    · refine ⟨_, rfl, p, T.c_Field, dx, _, _, rfl, F.ob, T.cl_Field, T.n_Field_nodes, ff_nodes, ln, _, rfl, .inl (SqL.of F.lns), _, _, rfl, rfl, _, rfl, ?_⟩
      by_cases c2 : i < (S.ns.length : Int)
      · refine n_yes c2 ?_
        obtain ⟨k, rfl⟩ := Int.eq_ofNat_of_zero_le c
        have hk : k < S.ns.length := by omega
        obtain ⟨v, hv⟩ : ∃ v, S.ns[k]? = some v := ⟨S.ns[k], List.getElem?_eq_getElem hk⟩
        refine ⟨_, rfl, p, T.c_Field, dx, _, _, rfl, F.ob, T.cl_Field, T.n_Field_nodes, ff_nodes, _, rfl, ln, _, _, _, rfl, rfl, SqL.of F.lns, at_of (j := k) rfl hv, ?_⟩
        refine ⟨_, rfl, rfl, _, rfl, ?_⟩
        rcases G.ent v (get_mem hv) with e | ⟨a, e⟩
        · subst e
          refine t_yes rfl ⟨_, rfl, fits (Nat.le_trans w2 (by decide)), _, rfl, .inr ⟨(k : Int), rfl, hl, _, rfl, fits (Nat.le_trans (app_fits w2 (txt_len hl)) (by decide)), _, rfl, fits (Nat.le_trans (app_fits (app_fits w2 (txt_len hl)) w3) (by decide)), (by show 1 ≤ sizeLine; decide), k2 fun k' a e h => ?_⟩⟩
          have e' : k' = k := by omega
          rw [e', hv] at h
          cases h
        · subst e
          exact t_no (by intro z; cases z) ⟨_, rfl, k1 k a rfl hv⟩
      · exact n_no c2 (bad (k2 fun k' a e h => c2 (by have := get_len h; omega)))
    · exact ⟨_, rfl, iteT (bad (k2 fun k' a e h => c (by omega)))⟩
/-- least(heap) -/
def sp_least (C D eN eB : Addr) : Sp := fun vs H Q E => ∃ (H0 : Hp) (p : Addr) (S : Fs) (h : Int), vs = [.ref p, .int h] ∧ Fd C D H0 H p S ∧ h.natAbs.log2 < 1920 ∧
  (∀ (j : Nat) (n : Nd) (l r : Tre), h = (j : Int) → S.ts[j]? = some (.nd n l r) → ∀ H' q, H0 q = none → Fd C D (upd H0 q (.tup [.int n.w, .int n.i])) H' p S → Q (.ref q) H') ∧
  (∀ j : Nat, h = (j : Int) → S.ts[j]? = some .nil → E (.ref eB) none H) ∧ (¬ InH S h → E (.ref eN) none H)
theorem ok_least (T : Txt K mg) : FnOk P w K mg base (L2.CX P w) 3 T.a_Field_least T.d_Field_least ["self", "heap"] (sp_least T.c_Node T.c_Field T.e_NoHeap T.e_Bare) := by
  have G_Field_top : FnOk P w K mg base (L2.CX P w) 2 _ _ _ _ := ok_top T
  refine T.F_Field_least.okX sc_Field_least (fun vs H Q E h => ?_) (fun cdv A outer s H vs Q E hr h => ?_)
  · obtain ⟨H0, p, S, h, rfl, _⟩ := h
    rfl
  · obtain ⟨H0, p, S, h, rfl, ⟨G, dx, lt, ln, F⟩, hl, k1, k2, k3⟩ := h
    refine ⟨_, (pss_cons (ps_set (i := 2) sc_Field_least.nd rfl (.inl rfl) (pe_meth (pv 0) T.cl_Field T.m_Field_top G_Field_top hr T.b_Field_top .nil (E := E) (passes_call (takes_of rfl rfl rfl rfl) (fun _ _ _ _ h => h)) (pa_cons (pv 1) pa_nil)))
  (pss_one (ps_ret (pe_tup (pa_cons (pe_fld (pv 2) rfl) (pa_cons (pe_fld (pv 2) rfl) pa_nil)))))), ?_⟩
    refine ⟨_, rfl, p, dx, _, rfl, F.ob, ff_no (by decide +kernel) (by decide +kernel) (by decide +kernel), _, rfl, H0, p, dx, lt, ln, S, h, rfl, F, hl, fun j n l r e hs => ?_, k2, k3⟩
    obtain ⟨⟨dn, en⟩, _⟩ := id (F.tr _ (get_mem hs)).1
    refine ⟨_, rfl, n.a, T.c_Node, dn, _, _, rfl, en, T.cl_Node, T.n_Node_weight, nf_weight, _, rfl, n.a, T.c_Node, dn, _, _, rfl, en, T.cl_Node, T.n_Node_thing, nf_thing, (by show 2 ≤ sizeLine; decide), fun q hq => ?_⟩
    exact k1 j n l r e hs _ q (F.same.free hq) ⟨G, dx, lt, ln, F.wr (.inr hq)⟩
/-- take(heap) -/
def sp_take (C D eN eB : Addr) : Sp := fun vs H Q E => ∃ (H0 : Hp) (p : Addr) (S : Fs) (h : Int), vs = [.ref p, .int h] ∧ Fd C D H0 H p S ∧ h.natAbs.log2 < 1920 ∧
  (∀ (j : Nat) (n : Nd) (l r : Tre), h = (j : Int) → S.ts[j]? = some (.nd n l r) → ∀ H' q, H0 q = none → Fd C D (upd H0 q (.tup [.int n.w, .int n.i])) H' p (S.take j n l r) → Q (.ref q) H') ∧
  (∀ j : Nat, h = (j : Int) → S.ts[j]? = some .nil → E (.ref eB) none H) ∧ (¬ InH S h → E (.ref eN) none H)
theorem ok_take (T : Txt K mg) : FnOk P w K mg base (L2.CX P w) 26 T.a_Field_take T.d_Field_take ["self", "heap"] (sp_take T.c_Node T.c_Field T.e_NoHeap T.e_Bare) := by
  have G_Field_top : FnOk P w K mg base (L2.CX P w) 25 _ _ _ _ := (ok_top T).mono (by decide)
  have G_Field_plant : FnOk P w K mg base CX0 25 _ _ _ _ := ok_plant T
  refine T.F_Field_take.okX sc_Field_take (fun vs H Q E h => ?_) (fun cdv A outer s H vs Q E hr h => ?_)
  · obtain ⟨H0, p, S, h, rfl, _⟩ := h
    rfl
  · obtain ⟨H0, p, S, h, rfl, ⟨G, dx, lt, ln, F⟩, hl, k1, k2, k3⟩ := h
    refine ⟨_, (pss_cons (ps_set (i := 2) sc_Field_take.nd rfl (.inl rfl) (pe_meth (pv 0) T.cl_Field T.m_Field_top G_Field_top hr T.b_Field_top .nil (E := E) (passes_call (takes_of rfl rfl rfl rfl) (fun _ _ _ _ h => h)) (pa_cons (pv 1) pa_nil)))
  (pss_cons (ps_asg pe_non (pg_sub (pe_fld (pv 0) rfl) (pe_fld (pv 2) rfl) set_list))
  (pss_cons (ps_fld (pv 0) (pe_meth (pv 0) T.cl_Field T.m_Field_plant G_Field_plant hr T.b_Field_plant .nil pass0 (pa_cons (pv 1) (pa_cons (pe_fld (pv 2) rfl) (pa_cons (pe_fld (pv 2) rfl) pa_nil)))) rfl)
  (pss_one (ps_ret (pe_tup (pa_cons (pe_fld (pv 2) rfl) (pa_cons (pe_fld (pv 2) rfl) pa_nil)))))))), ?_⟩
    refine ⟨_, rfl, p, dx, _, rfl, F.ob, ff_no (by decide +kernel) (by decide +kernel) (by decide +kernel), _, rfl, H0, p, dx, lt, ln, S, h, rfl, F, hl, fun j n l r e hs => ?_, k2, k3⟩
    have hj := get_len hs
    have tt := (F.tr _ (get_mem hs)).1
    obtain ⟨⟨dn, en⟩, hL, hR⟩ := id tt
    have ap := F.apart tt
    have n1 := F.pt
    have hi := (G.top hs).2
    have hii := get_len hi
    -- self._nodes[top.thing] = None
    refine ⟨_, rfl, p, T.c_Field, dx, _, _, rfl, F.ob, T.cl_Field, T.n_Field_nodes, ff_nodes, _, rfl, n.a, T.c_Node, dn, _, _, rfl, en, T.cl_Node, T.n_Node_thing, nf_thing, ln, _, _, n.i, rfl, rfl, F.lns, Evl.ixN_nat hii, ?_⟩
    generalize hH1 : upd H ln (.lst (S.ns.set n.i .non)) = H1
    have f1 : Frame [ln] H H1 := by
      rw [← hH1]
      exact Frame.wr (List.mem_singleton.mpr rfl)
    have p1 : H1 p = some (.ins T.c_Field dx (ff lt ln S.wk)) := f1 _ _ F.ob fun z => n1.2 (List.mem_singleton.mp z)
    have t1 : H1 lt = some (.lst (S.ts.map ref)) := f1 _ _ F.lts fun z => F.ne (List.mem_singleton.mp z)
    have l1 : H1 ln = some (.lst (S.ns.set n.i .non)) := by rw [← hH1, upd_same]
    have tt1 : TAt T.c_Node H1 (.nd n l r) .non := tt.keep f1 fun b hb z => ap.2.2 (by rw [← List.mem_singleton.mp z]; exact hb)
    obtain ⟨⟨dn1, en1⟩, hL1, hR1⟩ := id tt1
    have hA : (Tre.addrs (.nd n l r)).Nodup := by
      obtain ⟨X, Y, eS, _⟩ := at_split hs
      have hnd := G.nd
      rw [eS] at hnd
      exact (List.nodup_append.mp (flat_split.nodup_iff.mp hnd)).1
    rw [addrs_nd, List.nodup_cons] at hA
    have lo := G.lo _ (get_mem hs)
    have hz : (Tre.nd n l r).size = l.size + r.size + 1 := rfl
    have hsz := G.size hs
    have hln := G.len
    have hsp : l.spine + r.spine ≤ 20 := by
      have h1 := spine_le lo.2.2.1 (by omega)
      have h2 := spine_le lo.2.2.2 (by omega)
      omega
    -- self._work = self._plant(heap, top.left, top.right)
    subst e
    refine ⟨_, rfl, p, dx, _, rfl, p1, ff_no (by decide +kernel) (by decide +kernel) (by decide +kernel), _, rfl, _, rfl, n.a, T.c_Node, dn1, _, _, rfl, en1, T.cl_Node, T.n_Node_left, nf_left, _, rfl, n.a, T.c_Node, dn1, _, _, rfl, en1, T.cl_Node, T.n_Node_right, nf_right, ?_⟩
    refine ⟨p, dx, lt, ln, S.wk, _, j, l, r, _, _, rfl, p1, t1, by rw [List.length_map]; exact hj, hL1, hR1, hA.2, hsp, fun H2 t2 l2 f2 => ?_⟩
    have out : ∀ b, b ∉ Tre.addrs l ++ Tre.addrs r → b ≠ lt → b ∉ lt :: (Tre.addrs l ++ Tre.addrs r) := fun b h1 h2 z => (List.mem_cons.mp z).elim h2 h1
    have in_ : ∀ b, b ∈ Tre.addrs l ++ Tre.addrs r → b ∈ Tre.addrs (.nd n l r) := fun b h => by rw [addrs_nd]; exact List.mem_cons_of_mem _ h
    have p2 : H2 p = some (.ins T.c_Field dx (ff lt ln S.wk)) := f2 _ _ p1 (out p (fun z => ap.1 (in_ p z)) n1.1)
    have ln2 : H2 ln = some (.lst (S.ns.set n.i .non)) := f2 _ _ l1 (out ln (fun z => ap.2.2 (in_ ln z)) F.ne.symm)
    have na : n.a ≠ lt := fun z => ap.2.1 (by rw [← z, addrs_nd]; exact List.mem_cons_self)
    have npn : n.a ≠ p := fun z => ap.1 (by rw [← z, addrs_nd]; exact List.mem_cons_self)
    have en2 : H2 n.a = some (.ins T.c_Node dn1 (nf n.i n.w n.h .non (ref l) (ref r) n.k)) := f2 _ _ en1 (out n.a hA.1 na)
    refine ⟨_, rfl, p, T.c_Field, dx, _, rfl, p2, T.cl_Field, T.n_Field_work, ff_len, ?_⟩
    rw [ff_put]
    generalize hH3 : upd H2 p (.ins T.c_Field dx (ff lt ln ((join l r).2 : Int))) = H3
    have f3 : Frame [p] H2 H3 := by
      rw [← hH3]
      exact Frame.wr (List.mem_singleton.mpr rfl)
    have en3 : H3 n.a = some (.ins T.c_Node dn1 (nf n.i n.w n.h .non (ref l) (ref r) n.k)) := f3 _ _ en2 fun z => npn (List.mem_singleton.mp z)
    have t3 : TAt T.c_Node H3 (join l r).1 .non := t2.keep f3 fun b hb z => ap.1 (in_ p (by rw [← List.mem_singleton.mp z]; exact (join_addrs l r).mem_iff.mp hb))
    -- return (top.weight, top.thing)
    refine ⟨_, rfl, n.a, T.c_Node, dn1, _, _, rfl, en3, T.cl_Node, T.n_Node_weight, nf_weight, _, rfl, n.a, T.c_Node, dn1, _, _, rfl, en3, T.cl_Node, T.n_Node_thing, nf_thing, (by show 2 ≤ sizeLine; decide), fun q hq => ?_⟩
    have F3 : FAt T.c_Node T.c_Field H0 H3 p dx lt ln (S.take j n l r) := by
      refine F.repl G.nd hs [] (fun b hb => by cases hb) ?_ (by rw [← hH3, upd_same]) ?_ ?_ t3 fun b hb => .inl (in_ b ((join_addrs l r).mem_iff.mp hb))
      · rw [List.append_nil]
        have m1 : Frame (p :: lt :: ln :: Tre.addrs (.nd n l r)) H H1 := f1.mono fun b hb => by rw [List.mem_singleton.mp hb]; simp
        have m2 : Frame (p :: lt :: ln :: Tre.addrs (.nd n l r)) H1 H2 := f2.mono fun b hb => by
          rcases List.mem_cons.mp hb with z | z
          · rw [z]
            simp
          · exact List.mem_cons_of_mem _ (List.mem_cons_of_mem _ (List.mem_cons_of_mem _ (in_ b z)))
        have m3 : Frame (p :: lt :: ln :: Tre.addrs (.nd n l r)) H2 H3 := f3.mono fun b hb => by rw [List.mem_singleton.mp hb]; exact List.mem_cons_self
        exact (m1.trans m2).trans m3
      · rw [f3 _ _ l2 fun z => n1.1 (List.mem_singleton.mp z).symm, List.map_set]
      · exact f3 _ _ ln2 fun z => n1.2 (List.mem_singleton.mp z).symm
    exact k1 j n l r rfl hs _ q (F3.same.free hq) ⟨G.take hs, dx, lt, ln, F3.wr (.inr hq)⟩
/-- things(heap) -/
def sp_things (C D eN : Addr) : Sp := fun vs H Q E => ∃ (H0 : Hp) (p : Addr) (S : Fs) (h : Int), vs = [.ref p, .int h] ∧ Fd C D H0 H p S ∧ h.natAbs.log2 < 1920 ∧
  (∀ (j : Nat) (s : Tre), h = (j : Int) → S.ts[j]? = some s → ∀ H', Fd C D H0 H' p S → Q (.int (s.size : Int)) H') ∧ (¬ InH S h → E (.ref eN) none H)
theorem ok_things (T : Txt K mg) : FnOk P w K mg base (L2.CX P w) 2 T.a_Field_things T.d_Field_things ["self", "heap"] (sp_things T.c_Node T.c_Field T.e_NoHeap) := by
  have G_Field_check_heap : FnOk P w K mg base (L2.CX P w) 1 _ _ _ _ := ok_check T
  have G_in_order : FnOk P w K mg base CX0 1 _ _ _ _ := ok_in_order T
  refine T.F_Field_things.okX sc_Field_things (fun vs H Q E h => ?_) (fun cdv A outer s H vs Q E hr h => ?_)
  · obtain ⟨H0, p, S, h, rfl, _⟩ := h
    rfl
  · obtain ⟨H0, p, S, h, rfl, ⟨G, dx, lt, ln, F⟩, hl, k1, k3⟩ := h
    refine ⟨_, (pss_cons (ps_expr (pe_meth (pv 0) T.cl_Field T.m_Field_check_heap G_Field_check_heap hr T.b_Field_check_heap .nil (E := E) (passes_call (takes_of rfl rfl rfl rfl) (fun _ _ _ _ h => h)) (pa_cons (pv 1) pa_nil)))
  (pss_one (ps_ret (pe_callB call_len_seq (by rfl) T.z_len PySem.boot_len (pa_cons (pe_call G_in_order hr rfl T.g_in_order T.F_in_order.kp T.b_in_order .nil pass0 (pa_cons (pe_ix ix_list (pe_fld (pv 0) rfl) (pv 1) (fun _ _ => rfl)) pa_nil)) pa_nil))))), ?_⟩
    refine ⟨_, rfl, p, dx, _, rfl, F.ob, ff_no (by decide +kernel) (by decide +kernel) (by decide +kernel), _, rfl, H0, p, dx, lt, ln, S, h, rfl, F, fun h0 h1 => ?_, fun hb => ⟨hl, k3 hb⟩⟩
    obtain ⟨j, rfl⟩ := Int.eq_ofNat_of_zero_le h0
    have hj : j < S.ts.length := by omega
    obtain ⟨s, hs⟩ : ∃ s, S.ts[j]? = some s := ⟨S.ts[j], List.getElem?_eq_getElem hj⟩
    have tt := (F.tr _ (get_mem hs)).1
    have hsz := G.size hs
    have hln := G.len
    refine ⟨_, rfl, p, T.c_Field, dx, _, _, rfl, F.ob, T.cl_Field, T.n_Field_tops, ff_tops, _, rfl, lt, _, _, _, rfl, rfl, SqL.of F.lts, at_of (j := j) rfl (by rw [List.getElem?_map, hs]; rfl), s, _, rfl, tt, by omega, fun H1 q sm hq hq1 => ?_⟩
    refine ⟨q, _, rfl, .inl (SqL.of hq1), ?_⟩
    have e : (refs s.nodes).length = s.size := by
      unfold refs
      rw [List.length_map, size_nodes]
    rw [e]
    refine k1 j s rfl hs H1 ⟨G, dx, lt, ln, fun b o hb => sm _ _ (F.same b o hb), F.p0, F.t0, F.n0, sm _ _ F.ob, sm _ _ F.lts, sm _ _ F.lns, F.ne, fun t ht => ⟨(F.tr t ht).1.same sm, (F.tr t ht).2⟩⟩
/-- work() -/
def sp_work (C D : Addr) : Sp := fun vs H Q _ => ∃ (H0 : Hp) (p : Addr) (S : Fs), vs = [.ref p] ∧ Fd C D H0 H p S ∧ Q (.int S.wk) H
theorem ok_work (T : Txt K mg) : FnOk P w K mg base CX0 1 T.a_Field_work T.d_Field_work ["self"] (sp_work T.c_Node T.c_Field) := by
  refine T.F_Field_work.ok sc_Field_work (fun vs H Q E h => ?_) (fun cdv A outer s H vs Q E hr h => ?_)
  · obtain ⟨H0, p, S, rfl, _⟩ := h
    rfl
  · obtain ⟨H0, p, S, rfl, ⟨G, dx, lt, ln, F⟩, k⟩ := h
    refine ⟨_, (pss_one (ps_ret (pe_fld (pv 0) rfl))), ?_⟩
    exact ⟨_, rfl, p, T.c_Field, dx, _, _, rfl, F.ob, T.cl_Field, T.n_Field_work, ff_work, k⟩
end
/-! ### looking at all of a tree; pouring; sinking -/
namespace Tre
/-- each node with its parts, a thing ahead of its left part and that ahead of its right part -/
def subs : Tre → List (Nd × Tre × Tre)
  | nil => []
  | nd n l r => (n, l, r) :: (subs l ++ subs r)
theorem subs_nodes : ∀ t : Tre, (subs t).map (·.1) = nodes t
  | nil => rfl
  | nd n l r => by
    show n :: ((subs l ++ subs r).map (·.1)) = n :: (nodes l ++ nodes r)
    rw [List.map_append, subs_nodes l, subs_nodes r]
def rowOf (x : Nd × Tre × Tre) : List V := [.int x.1.i, .int x.1.w, thV x.2.1, thV x.2.2, .int x.1.k]
def mapN (f : Nd → Nd) : Tre → Tre
  | nil => nil
  | nd n l r => nd (f n) (mapN f l) (mapN f r)
def one (a : Addr) (h : Int) (n : Nd) : Nd := if n.a = a then { n with h := h } else n
theorem one_a {a : Addr} {h : Int} (n : Nd) : (one a h n).a = n.a := by
  unfold one
  split <;> rfl
theorem mapN_ref {f : Nd → Nd} (hf : ∀ n, (f n).a = n.a) : ∀ t : Tre, ref (mapN f t) = ref t
  | nil => rfl
  | nd n l r => congrArg V.ref (hf n)
theorem mapN_addrs {f : Nd → Nd} (hf : ∀ n, (f n).a = n.a) : ∀ t : Tre, addrs (mapN f t) = addrs t
  | nil => rfl
  | nd n l r => by
    show addrs (nd (f n) (mapN f l) (mapN f r)) = _
    rw [addrs_nd, addrs_nd, hf, mapN_addrs hf l, mapN_addrs hf r]
theorem mapN_off {a : Addr} {h : Int} : ∀ {t : Tre}, a ∉ addrs t → mapN (one a h) t = t
  | nil, _ => rfl
  | nd n l r, hn => by
    rw [addrs_nd] at hn
    have h1 : n.a ≠ a := fun e => hn (by rw [e]; exact List.mem_cons_self)
    show nd (one a h n) (mapN (one a h) l) (mapN (one a h) r) = nd n l r
    rw [mapN_off fun z => hn (List.mem_cons_of_mem _ (List.mem_append_left _ z)), mapN_off fun z => hn (List.mem_cons_of_mem _ (List.mem_append_right _ z))]
    unfold one
    rw [if_neg h1]
theorem mapN_comp (f g : Nd → Nd) : ∀ t : Tre, mapN f (mapN g t) = mapN (fun n => f (g n)) t
  | nil => rfl
  | nd n l r => by
    show nd (f (g n)) (mapN f (mapN g l)) (mapN f (mapN g r)) = nd (f (g n)) (mapN (fun n => f (g n)) l) (mapN (fun n => f (g n)) r)
    rw [mapN_comp f g l, mapN_comp f g r]
/-- those at the addresses as have the home h -/
def homes (h : Int) (as : List Addr) (t : Tre) : Tre := mapN (fun n => if n.a ∈ as then { n with h := h } else n) t
theorem homes_a {h : Int} {as : List Addr} (n : Nd) : (if n.a ∈ as then { n with h := h } else n).a = n.a := by
  split <;> rfl
theorem homes_nil (h : Int) : ∀ t : Tre, homes h [] t = t
  | nil => rfl
  | nd n l r => by
    have e1 := homes_nil h l
    have e2 := homes_nil h r
    show nd n (homes h [] l) (homes h [] r) = nd n l r
    rw [e1, e2]
theorem homes_snoc (h : Int) (as : List Addr) (a : Addr) (t : Tre) : mapN (one a h) (homes h as t) = homes h (as ++ [a]) t := by
  unfold homes
  rw [mapN_comp]
  congr 1
  funext n
  by_cases c : n.a ∈ as
  · have c2 : n.a ∈ as ++ [a] := List.mem_append_left _ c
    rw [if_pos c, if_pos c2]
    unfold one
    split <;> rfl
  · rw [if_neg c]
    unfold one
    by_cases c2 : n.a = a
    · rw [if_pos c2, if_pos (List.mem_append_right _ (List.mem_singleton.mpr c2))]
    · rw [if_neg c2, if_neg fun z => (List.mem_append.mp z).elim c fun q => c2 (List.mem_singleton.mp q)]
theorem homes_all (h : Nat) (as : List Addr) : ∀ t : Tre, (∀ b ∈ addrs t, b ∈ as) → homes h as t = homed h t
  | nil, _ => rfl
  | nd n l r, hs => by
    rw [addrs_nd] at hs
    have e1 := homes_all h as l fun b hb => hs b (List.mem_cons_of_mem _ (List.mem_append_left _ hb))
    have e2 := homes_all h as r fun b hb => hs b (List.mem_cons_of_mem _ (List.mem_append_right _ hb))
    show nd (if n.a ∈ as then { n with h := (h : Int) } else n) (homes h as l) (homes h as r) = nd { n with h := (h : Int) } (homed h l) (homed h r)
    rw [e1, e2, if_pos (hs _ List.mem_cons_self)]
theorem addrs_nodes (t : Tre) : addrs t = (nodes t).map Nd.a := by
  unfold addrs dats
  rw [List.map_map]
  rfl
end Tre
section
variable {C D : Addr} {H0 H H' : Hp} {p : Addr} {S : Fs}
theorem TAt.home : ∀ {t : Tre} {ab : V} {a : Addr} {h' : Int}, TAt C H t ab → (Tre.addrs t).Nodup → a ∈ Tre.addrs t →
    ∃ dx i w h x l r k, H a = some (.ins C dx (nf i w h x l r k)) ∧ TAt C (upd H a (.ins C dx (nf i w h' x l r k))) (mapN (one a h') t) ab
  | .nil, _, _, _, _, _, ha => by cases ha
  | .nd n l r, ab, a, h', ht, hN, ha => by
    rw [addrs_nd] at ha hN
    rw [List.nodup_cons] at hN
    obtain ⟨n1, n2, n3⟩ := nodup_app hN.2
    obtain ⟨⟨dn, en⟩, hl, hr⟩ := ht
    have rl := mapN_ref (f := one a h') one_a l
    have rr := mapN_ref (f := one a h') one_a r
    by_cases c : n.a = a
    · subst c
      refine ⟨dn, _, _, _, _, _, _, _, en, ?_⟩
      have f : Frame [n.a] H (upd H n.a (.ins C dn (nf n.i n.w h' ab (ref l) (ref r) n.k))) := Frame.wr (List.mem_singleton.mpr rfl)
      have e0 : mapN (one n.a h') (.nd n l r) = .nd { n with h := h' } l r := by
        show Tre.nd (one n.a h' n) (mapN (one n.a h') l) (mapN (one n.a h') r) = _
        rw [mapN_off fun z => hN.1 (List.mem_append_left _ z), mapN_off fun z => hN.1 (List.mem_append_right _ z)]
        unfold one
        rw [if_pos rfl]
      rw [e0]
      exact ⟨⟨dn, upd_same⟩, hl.keep f fun b hb z => hN.1 (by rw [← List.mem_singleton.mp z]; exact List.mem_append_left _ hb), hr.keep f fun b hb z => hN.1 (by rw [← List.mem_singleton.mp z]; exact List.mem_append_right _ hb)⟩
    · have e1 : one a h' n = n := by
        unfold one
        rw [if_neg c]
      have ha2 : a ∈ Tre.addrs l ++ Tre.addrs r := (List.mem_cons.mp ha).elim (fun z => absurd z.symm c) id
      rcases List.mem_append.mp ha2 with z | z
      · obtain ⟨dx, i, w, h, x, l', r', k, e, t2⟩ := TAt.home (h' := h') hl n1 z
        refine ⟨dx, i, w, h, x, l', r', k, e, ?_⟩
        have f : Frame [a] H (upd H a (.ins C dx (nf i w h' x l' r' k))) := Frame.wr (List.mem_singleton.mpr rfl)
        show TAt C _ (.nd (one a h' n) (mapN (one a h') l) (mapN (one a h') r)) ab
        rw [e1, mapN_off (n3 a z)]
        refine ⟨⟨dn, ?_⟩, t2, hr.keep f fun b hb q => n3 a z (by rw [← List.mem_singleton.mp q]; exact hb)⟩
        rw [upd_ne c, rl]
        exact en
      · have zl : a ∉ Tre.addrs l := fun q => n3 a q z
        obtain ⟨dx, i, w, h, x, l', r', k, e, t2⟩ := TAt.home (h' := h') hr n2 z
        refine ⟨dx, i, w, h, x, l', r', k, e, ?_⟩
        have f : Frame [a] H (upd H a (.ins C dx (nf i w h' x l' r' k))) := Frame.wr (List.mem_singleton.mpr rfl)
        show TAt C _ (.nd (one a h' n) (mapN (one a h') l) (mapN (one a h') r)) ab
        rw [e1, mapN_off zl]
        refine ⟨⟨dn, ?_⟩, hl.keep f fun b hb q => zl (by rw [← List.mem_singleton.mp q]; exact hb), t2⟩
        rw [upd_ne c, rr]
        exact en
theorem TAt.sub : ∀ {t : Tre} {ab : V} {x : Nd × Tre × Tre}, TAt C H t ab → x ∈ subs t → ∃ y, TAt C H (.nd x.1 x.2.1 x.2.2) y
  | .nil, _, _, _, h => by cases h
  | .nd n l r, ab, x, ht, h => by
    rcases List.mem_cons.mp h with z | z
    · rw [z]
      exact ⟨ab, ht⟩
    · rcases List.mem_append.mp z with z | z
      · exact TAt.sub ht.2.1 z
      · exact TAt.sub ht.2.2 z
theorem TAt.dat : ∀ {t : Tre} {ab : V} {d : Dat}, TAt C H t ab → d ∈ dats t → ∃ x l r k dx, H d.a = some (.ins C dx (nf (d.i : Int) d.w d.h x l r k))
  | .nil, _, _, _, h => by cases h
  | .nd n l r, ab, d, ht, h => by
    rw [dats_nd] at h
    rcases List.mem_cons.mp h with z | z
    · rw [z]
      obtain ⟨dd, e⟩ := ht.1
      exact ⟨_, _, _, _, dd, e⟩
    · rcases List.mem_append.mp z with z | z
      · exact TAt.dat ht.2.1 z
      · exact TAt.dat ht.2.2 z
/-- new objects are handed over to the others -/
theorem Fd.ext (F : Fd C D H0 H p S) (sm : Same H H') (N : List Addr) (hN : ∀ b ∈ N, H b = none) : Fd C D (fun b => if b ∈ N then H' b else H0 b) H' p S := by
  obtain ⟨G, dx, lt, ln, A⟩ := F
  have off : ∀ b o, H b = some o → (fun b => if b ∈ N then H' b else H0 b) b = H0 b := fun b o e => if_neg fun z => by
    rw [hN b z] at e
    cases e
  refine ⟨G, dx, lt, ln, fun b o hb => ?_, (off _ _ A.ob).trans A.p0, (off _ _ A.lts).trans A.t0, (off _ _ A.lns).trans A.n0, sm _ _ A.ob, sm _ _ A.lts, sm _ _ A.lns, A.ne, fun t ht => ?_⟩
  · by_cases c : b ∈ N
    · rw [if_pos c] at hb
      exact hb
    · rw [if_neg c] at hb
      exact sm _ _ (A.same b o hb)
  · have q := A.tr t ht
    refine ⟨q.1.same sm, fun b hb => ?_⟩
    obtain ⟨dd, fs, e⟩ := q.1.there b hb
    exact (off b _ e).trans (q.2 b hb)
end
section
variable {P : Program} {w : World} {K : PySem.W.Frag} {mg : Str → Option Value} {base : Heap}
/-- the rows of a told tree: a list at L of new tuples -/
structure Told (H1 : Hp) (L : Addr) (as : List Addr) (s : Tre) : Prop where
  lst : H1 L = some (.lst (as.map V.ref))
  len : as.length = (subs s).length
  row : ∀ (k : Nat) (a : Addr), as[k]? = some a → ∃ x, (subs s)[k]? = some x ∧ H1 a = some (.tup (rowOf x))
def sp_tree (C D eN : Addr) : Sp := fun vs H Q E => ∃ (H0 : Hp) (p : Addr) (S : Fs) (h : Int), vs = [.ref p, .int h] ∧ Fd C D H0 H p S ∧ h.natAbs.log2 < 1920 ∧
  (∀ (j : Nat) (s : Tre), h = (j : Int) → S.ts[j]? = some s → ∀ H1 H' L as, Same H0 H1 → H0 L = none → Told H1 L as s → Fd C D H1 H' p S → Q (.ref L) H') ∧ (¬ InH S h → E (.ref eN) none H)
theorem ok_tree (T : Txt K mg) : FnOk P w K mg base (L2.CX P w) 2 T.a_Field_tree T.d_Field_tree ["self", "heap"] (sp_tree T.c_Node T.c_Field T.e_NoHeap) := by
  have G_Field_check_heap : FnOk P w K mg base (L2.CX P w) 1 _ _ _ _ := ok_check T
  have G_in_order : FnOk P w K mg base CX0 1 _ _ _ _ := ok_in_order T
  have G_thing_of : FnOk P w K mg base CX0 1 _ _ _ _ := ok_thing_of T
  refine T.F_Field_tree.okX sc_Field_tree (fun vs H Q E h => ?_) (fun cdv A outer s H vs Q E hr h => ?_)
  · obtain ⟨H0, p, S, h, rfl, _⟩ := h
    rfl
  · obtain ⟨H0, p, S, h, rfl, ⟨G, dx, lt, ln, F⟩, hl, k1, k3⟩ := h
    refine ⟨_, (pss_cons (ps_expr (pe_meth (pv 0) T.cl_Field T.m_Field_check_heap G_Field_check_heap hr T.b_Field_check_heap .nil (E := E) (passes_call (takes_of rfl rfl rfl rfl) (fun _ _ _ _ h => h)) (pa_cons (pv 1) pa_nil)))
  (pss_one (ps_ret (pe_lc (own := [("node", 2)]) (by rfl) sc_Field_tree.nd (pi_list (pe_call G_in_order hr rfl T.g_in_order T.F_in_order.kp T.b_in_order .nil pass0 (pa_cons (pe_ix ix_list (pe_fld (pv 0) rfl) (pv 1) (fun _ _ => rfl)) pa_nil))) (blkOk_by (N := N_Field_tree) (sc := defScope s_Field_tree) (by decide +kernel)) (fun _ _ _ _ _ => (pg_name (i := 2) sc_Field_tree.nd rfl (.inl rfl))) (fun _ _ _ _ _ => pts_nil) (fun _ _ _ _ _ => (pe_tup (pa_cons (pe_fldK (K := K) rfl (pv 2) rfl) (pa_cons (pe_fldK (K := K) rfl (pv 2) rfl) (pa_cons (pe_call G_thing_of hr rfl T.g_thing_of T.F_thing_of.kp T.b_thing_of .nil pass0 (pa_cons (pe_fldK (K := K) rfl (pv 2) rfl) pa_nil)) (pa_cons (pe_call G_thing_of hr rfl T.g_thing_of T.F_thing_of.kp T.b_thing_of .nil pass0 (pa_cons (pe_fldK (K := K) rfl (pv 2) rfl) pa_nil)) (pa_cons (pe_fldK (K := K) rfl (pv 2) rfl) pa_nil))))))))))), ?_⟩
    refine ⟨_, rfl, p, dx, _, rfl, F.ob, ff_no (by decide +kernel) (by decide +kernel) (by decide +kernel), _, rfl, H0, p, dx, lt, ln, S, h, rfl, F, fun h0 h1 => ?_, fun hb => ⟨hl, k3 hb⟩⟩
    obtain ⟨j, rfl⟩ := Int.eq_ofNat_of_zero_le h0
    have hj : j < S.ts.length := by omega
    obtain ⟨s, hs⟩ : ∃ s, S.ts[j]? = some s := ⟨S.ts[j], List.getElem?_eq_getElem hj⟩
    have tt := (F.tr _ (get_mem hs)).1
    have hsz := G.size hs
    have hln := G.len
    refine ⟨_, rfl, p, T.c_Field, dx, _, _, rfl, F.ob, T.cl_Field, T.n_Field_tops, ff_tops, _, rfl, lt, _, _, _, rfl, rfl, SqL.of F.lts, at_of (j := j) rfl (by rw [List.getElem?_map, hs]; rfl), s, _, rfl, tt, by omega, fun H1 q sm hq hq1 => ?_⟩
    have hlen : (refs s.nodes).length = (subs s).length := by
      unfold refs
      rw [List.length_map, ← subs_nodes, List.length_map]
    have hsl : (subs s).length = s.size := by
      rw [← hlen]
      unfold refs
      rw [List.length_map, size_nodes]
    refine ⟨q, rfl, ⟨_, SqL.of hq1⟩, fun D hD => lc_list (K := K) (a := q) (xs := refs s.nodes) (fun i H' => Same H1 H' ∧ ∃ as : List Addr, as.length = i ∧ H' D = some (.lst (as.map V.ref)) ∧ (∀ b ∈ as, H1 b = none) ∧
        ∀ (k : Nat) (a : Addr), as[k]? = some a → ∃ x, (subs s)[k]? = some x ∧ H' a = some (.tup (rowOf x)))
      ⟨same_new hD, [], rfl, upd_same, (fun b hb => by cases hb), fun k a h => by simp at h⟩ (fun i H' _ ⟨s1, _⟩ => SqL.of (s1 _ _ hq1)) ?_ ?_⟩
    · rintro i v H2 hi ⟨s1, as, hlas, hD2, hn, hrow⟩
      have hil : i < (subs s).length := by
        rw [← hlen]
        exact get_len hi
      obtain ⟨x, hx⟩ : ∃ x, (subs s)[i]? = some x := ⟨(subs s)[i], List.getElem?_eq_getElem hil⟩
      have ev : v = .ref x.1.a := by
        unfold refs at hi
        rw [← subs_nodes, List.map_map, List.getElem?_map, hx] at hi
        exact (Option.some.inj hi).symm
      subst ev
      obtain ⟨n, l, r⟩ := x
      obtain ⟨y, ⟨dn, en⟩, hl2, hr2⟩ := tt.sub (get_mem hx)
      have en2 := s1 _ _ (sm _ _ en)
      have hl3 := (hl2.same sm).same s1
      have hr3 := (hr2.same sm).same s1
      refine ⟨rfl, ?_⟩
      refine ⟨_, rfl, n.a, T.c_Node, dn, _, _, rfl, en2, T.cl_Node, T.n_Node_thing, nf_thing, _, rfl, n.a, T.c_Node, dn, _, _, rfl, en2, T.cl_Node, T.n_Node_weight, nf_weight, ?_⟩
      refine ⟨_, rfl, n.a, T.c_Node, dn, _, _, rfl, en2, T.cl_Node, T.n_Node_left, nf_left, l, _, rfl, hl3, ?_⟩
      refine ⟨_, rfl, n.a, T.c_Node, dn, _, _, rfl, en2, T.cl_Node, T.n_Node_right, nf_right, r, _, rfl, hr3, ?_⟩
      refine ⟨_, rfl, n.a, T.c_Node, dn, _, _, rfl, en2, T.cl_Node, T.n_Node_run, nf_run, (by show 5 ≤ sizeLine; decide), fun a ha => ?_⟩
      have nDa : D ≠ a := ne_of_none hD2 ha
      have na : ∀ b ∈ as, b ≠ a := fun b hb => by
        obtain ⟨k, hk⟩ := List.mem_iff_getElem?.mp hb
        obtain ⟨_, _, e⟩ := hrow k b hk
        exact ne_of_none e ha
      refine ⟨as.map V.ref, by rw [upd_ne nDa]; exact hD2, by rw [List.length_map]; exact Evl.sz_lt (by omega), fun b o hb => ?_, as ++ [a], by rw [List.length_append, hlas]; rfl, by rw [upd_same, List.map_append]; rfl, fun b hb => ?_, fun k b hk => ?_⟩
      · have h2 := s1 b o hb
        rw [upd_ne (ne_of_none hb hD), upd_ne (ne_of_none h2 ha)]
        exact h2
      · rcases List.mem_append.mp hb with z | z
        · exact hn b z
        · rw [List.mem_singleton.mp z]
          exact s1.free ha
      · by_cases c : k < as.length
        · rw [List.getElem?_append_left c] at hk
          obtain ⟨x, hx1, hx2⟩ := hrow k b hk
          refine ⟨x, hx1, ?_⟩
          have nb : b ≠ D := fun e => by
            rw [e, hD2] at hx2
            cases hx2
          rw [upd_ne nb, upd_ne (na b (get_mem hk))]
          exact hx2
        · have hk2 := get_len hk
          rw [List.length_append, List.length_singleton] at hk2
          have ek : k = as.length := by omega
          rw [ek, List.getElem?_append_right (Nat.le_refl _), Nat.sub_self] at hk
          have eb : b = a := (Option.some.inj hk).symm
          refine ⟨(n, l, r), by rw [ek, hlas]; exact hx, ?_⟩
          rw [eb, upd_ne nDa.symm, upd_same]
          rfl
    · rintro H2 ⟨s1, as, hlas, hD2, hn, hrow⟩
      have F1 : Fd T.c_Node T.c_Field H0 H1 p S := ⟨G, dx, lt, ln, fun b o hb => sm _ _ (F.same b o hb), F.p0, F.t0, F.n0, sm _ _ F.ob, sm _ _ F.lts, sm _ _ F.lns, F.ne, fun t ht => ⟨(F.tr t ht).1.same sm, (F.tr t ht).2⟩⟩
      have hN : ∀ b ∈ D :: as, H1 b = none := fun b hb => (List.mem_cons.mp hb).elim (fun z => by rw [z]; exact hD) (hn b)
      have F2 := F1.ext s1 (D :: as) hN
      have sm0 : Same H0 H1 := F1.same
      refine k1 j s rfl hs _ H2 D as (fun b o hb => ?_) (sm0.free hD) ⟨?_, ?_, fun k a hk => ?_⟩ F2
      · show (if b ∈ D :: as then H2 b else H0 b) = some o
        rw [if_neg fun z => by
          have h2 := sm0 b o hb
          rw [hN b z] at h2
          cases h2]
        exact hb
      · show (if D ∈ D :: as then H2 D else H0 D) = _
        rw [if_pos List.mem_cons_self]
        exact hD2
      · rw [hlas, hlen]
      · obtain ⟨x, h1, h2⟩ := hrow k a hk
        refine ⟨x, h1, ?_⟩
        show (if a ∈ D :: as then H2 a else H0 a) = _
        rw [if_pos (List.mem_cons_of_mem _ (get_mem hk))]
        exact h2
end
/-! ### pouring -/
section
variable {P : Program} {w : World} {K : PySem.W.Frag} {mg : Str → Option Value} {base : Heap}
/-- pour(heap, other) -/
def sp_pour (C D eN eS : Addr) : Sp := fun vs H Q E => ∃ (H0 : Hp) (p : Addr) (S : Fs) (h g : Int), vs = [.ref p, .int h, .int g] ∧ Fd C D H0 H p S ∧ h.natAbs.log2 < 1920 ∧ g.natAbs.log2 < 1920 ∧
  (∀ (j o : Nat), h = (j : Int) → g = (o : Int) → j ≠ o → j < S.ts.length → o < S.ts.length → ∀ H', Fd C D H0 H' p (S.pour j o) → Q .non H') ∧ (¬ InH S h ∨ ¬ InH S g → E (.ref eN) none H) ∧ (InH S h → h = g → E (.ref eS) none H)
theorem ok_pour (T : Txt K mg) : FnOk P w K mg base (L2.CX P w) 26 T.a_Field_pour T.d_Field_pour ["self", "heap", "other"] (sp_pour T.c_Node T.c_Field T.e_NoHeap T.e_Same) := by
  have G_Field_check_heap : FnOk P w K mg base (L2.CX P w) 25 _ _ _ _ := (ok_check T).mono (by decide)
  have G_in_order : FnOk P w K mg base CX0 25 _ _ _ _ := (ok_in_order T).mono (by decide)
  have G_Field_plant : FnOk P w K mg base CX0 25 _ _ _ _ := ok_plant T
  refine T.F_Field_pour.okX sc_Field_pour (fun vs H Q E h => ?_) (fun cdv A outer s H vs Q E hr h => ?_)
  · obtain ⟨H0, p, S, h, g, rfl, _⟩ := h
    rfl
  · obtain ⟨H0, p, S, h, g, rfl, ⟨G, dx, lt, ln, F⟩, hl, hlg, k1, k2, k3⟩ := h
    refine ⟨_, (pss_cons (ps_expr (pe_meth (pv 0) T.cl_Field T.m_Field_check_heap G_Field_check_heap hr T.b_Field_check_heap .nil (E := E) (passes_call (takes_of rfl rfl rfl rfl) (fun _ _ _ _ h => h)) (pa_cons (pv 1) pa_nil)))
  (pss_cons (ps_expr (pe_meth (pv 0) T.cl_Field T.m_Field_check_heap G_Field_check_heap hr T.b_Field_check_heap .nil (E := E) (passes_call (takes_of rfl rfl rfl rfl) (fun _ _ _ _ h => h)) (pa_cons (pv 2) pa_nil)))
  (pss_cons (ps_if (pt_cmpR op_eq (pv 1) (pv 2) (nomark _))
  (pss_one (ps_raise rfl (takes_of rfl rfl rfl rfl) (pmk_ownA PySem.F.excBase_ValueError T.xSame T.gSame T.kSame (raises_own T.bSame T.tSame) rfl (pa_cons (pe_joined (.cons pe_str (.cons (pe_fmt (pv 1)) (.cons pe_str .nil)))) pa_nil))))
  pss_nil)
  (pss_cons (ps_set (i := 3) sc_Field_pour.nd rfl (.inl rfl) (pe_ix ix_list (pe_fld (pv 0) rfl) (pv 2) (fun _ _ => rfl)))
  (pss_cons (ps_for (passes_of rfl) rfl (pi_list (pe_call G_in_order hr rfl T.g_in_order T.F_in_order.kp T.b_in_order .nil pass0 (pa_cons (pv 3) pa_nil))) (pg_name (i := 4) sc_Field_pour.nd rfl (.inl rfl))
  (pss_one (ps_fld (pv 4) (pv 1) rfl)))
  (pss_cons (ps_asg pe_non (pg_sub (pe_fld (pv 0) rfl) (pv 2) set_list))
  (pss_one (ps_fld (pv 0) (pe_meth (pv 0) T.cl_Field T.m_Field_plant G_Field_plant hr T.b_Field_plant .nil pass0 (pa_cons (pv 1) (pa_cons (pe_ix ix_list (pe_fld (pv 0) rfl) (pv 1) (fun _ _ => rfl)) (pa_cons (pv 3) pa_nil)))) rfl)))))))), ?_⟩
    refine ⟨_, rfl, p, dx, _, rfl, F.ob, ff_no (by decide +kernel) (by decide +kernel) (by decide +kernel), _, rfl, H0, p, dx, lt, ln, S, h, rfl, F, fun h0 h1 => ?_, fun hb => ⟨hl, k2 (.inl hb)⟩⟩
    refine ⟨_, rfl, p, dx, _, rfl, F.ob, ff_no (by decide +kernel) (by decide +kernel) (by decide +kernel), _, rfl, H0, p, dx, lt, ln, S, g, rfl, F, fun g0 g1 => ?_, fun hb => ⟨hlg, k2 (.inr hb)⟩⟩
    obtain ⟨j, rfl⟩ := Int.eq_ofNat_of_zero_le h0
    obtain ⟨o, rfl⟩ := Int.eq_ofNat_of_zero_le g0
    have hj : j < S.ts.length := by omega
    have ho : o < S.ts.length := by omega
    obtain ⟨s, hs⟩ : ∃ s, S.ts[j]? = some s := ⟨S.ts[j], List.getElem?_eq_getElem hj⟩
    obtain ⟨u, hu⟩ : ∃ u, S.ts[o]? = some u := ⟨S.ts[o], List.getElem?_eq_getElem ho⟩
    have w1 : (Str.empty ++ ("heap " : Str)).length ≤ 5 := by decide +kernel
    have w2 : (" can't be poured into itself" : Str).length ≤ 28 := by decide +kernel
    refine ⟨_, rfl, _, rfl, rfl, _, rfl, t_2 (fun c => ?_) (fun c => ?_)⟩
    · exact ⟨_, rfl, fits (Nat.le_trans w1 (by decide)), _, rfl, .inr ⟨(j : Int), rfl, hl, _, rfl, fits (Nat.le_trans (app_fits w1 (txt_len hl)) (by decide)), _, rfl, fits (Nat.le_trans (app_fits (app_fits w1 (txt_len hl)) w2) (by decide)), (by show 1 ≤ sizeLine; decide), k3 ⟨h0, h1⟩ (V.int.inj c)⟩⟩
    have hne : j ≠ o := fun e => c (by rw [e])
    have ts := (F.tr _ (get_mem hs)).1
    have tu := (F.tr _ (get_mem hu)).1
    have hln := G.len
    have hsu := G.size hu
    have hss := G.size hs
    have ap := F.apart ts
    have au := F.apart tu
    have n1 := F.pt
    have hNu := G.ndT hu
    have hNs := G.ndT hs
    have hP := G.ndP hs hu hne
    -- poured = self._tops[other]
    refine ⟨_, rfl, p, T.c_Field, dx, _, _, rfl, F.ob, T.cl_Field, T.n_Field_tops, ff_tops, _, rfl, lt, _, _, _, rfl, rfl, SqL.of F.lts, at_of (j := o) rfl (by rw [List.getElem?_map, hu]; rfl), ?_⟩
    -- for node in in_order(poured): node.home = heap
    refine ⟨_, rfl, u, .non, rfl, tu, by omega, fun H1 q sm hq hq1 => ?_⟩
    refine ⟨q, rfl, ⟨_, SqL.of hq1⟩, for_list (K := K) (a := q) (xs := refs u.nodes) (fun i σ H' => ∃ v, σ = [some (.ref p), some (.int (j : Int)), some (.int (o : Int)), some (ref u), v] ∧ H' q = some (.lst (refs u.nodes)) ∧
        TAt T.c_Node H' (homes (j : Int) ((Tre.addrs u).take i) u) .non ∧ Frame (Tre.addrs u) H H') ?_ ?_ ?_ ?_⟩
    · refine ⟨none, rfl, hq1, ?_, Frame.same sm⟩
      rw [List.take_zero, homes_nil]
      exact tu.same sm
    · rintro i σ H' hi ⟨v, _, e, _⟩
      exact SqL.of e
    · rintro i x σ H' hi ⟨v, rfl, e1, e2, e3⟩
      obtain ⟨n, hn, rfl⟩ : ∃ n, u.nodes[i]? = some n ∧ x = .ref n.a := by
        unfold refs at hi
        rw [List.getElem?_map] at hi
        cases hh : u.nodes[i]? with
        | none => rw [hh] at hi; cases hi
        | some n =>
          rw [hh] at hi
          exact ⟨n, rfl, (Option.some.inj hi).symm⟩
      have hna : (Tre.addrs u)[i]? = some n.a := by rw [addrs_nodes, List.getElem?_map, hn]; rfl
      have hmem : n.a ∈ Tre.addrs u := get_mem hna
      have hN2 : (Tre.addrs (homes (j : Int) ((Tre.addrs u).take i) u)).Nodup := by
        unfold homes
        rw [mapN_addrs homes_a]
        exact hNu
      obtain ⟨dx', i', w', h', x', l', r', k', en, t2⟩ := TAt.home (h' := (j : Int)) e2 hN2 (by unfold homes; rw [mapN_addrs homes_a]; exact hmem)
      have nq : q ≠ n.a := fun z => tu.ne hq (by rw [z]; exact hmem)
      refine ⟨_, rfl, _, rfl, n.a, T.c_Node, dx', _, rfl, en, T.cl_Node, T.n_Node_home, nf_len, ?_⟩
      rw [put_home]
      refine ⟨_, rfl, ?_, ?_, e3.trans (Frame.wr hmem)⟩
      · rw [upd_ne nq]
        exact e1
      · rw [homes_snoc] at t2
        have e4 : (Tre.addrs u).take (i + 1) = (Tre.addrs u).take i ++ [n.a] := by
          rw [List.take_succ, hna]
          rfl
        rw [e4]
        exact t2
    rintro σ H2 ⟨v, rfl, e1, e2, f2⟩
    have eu : homes (j : Int) ((Tre.addrs u).take (refs u.nodes).length) u = homed j u := by
      have e : (refs u.nodes).length = (Tre.addrs u).length := by
        unfold refs
        rw [addrs_nodes, List.length_map, List.length_map]
      rw [e, List.take_length]
      exact homes_all j _ u fun b hb => hb
    rw [eu] at e2
    have p2 : H2 p = some (.ins T.c_Field dx (ff lt ln S.wk)) := f2 _ _ F.ob au.1
    have l2 : H2 lt = some (.lst (S.ts.map ref)) := f2 _ _ F.lts au.2.1
    have ln2 : H2 ln = some (.lst S.ns) := f2 _ _ F.lns au.2.2
    have s2 : TAt T.c_Node H2 s .non := ts.keep f2 hP
    -- self._tops[other] = None
    have ho2 : o < (S.ts.map ref).length := by rw [List.length_map]; exact ho
    refine ⟨_, rfl, p, T.c_Field, dx, _, _, rfl, p2, T.cl_Field, T.n_Field_tops, ff_tops, _, rfl, lt, _, _, o, rfl, rfl, l2, Evl.ixN_nat ho2, ?_⟩
    generalize hH3 : upd H2 lt (.lst ((S.ts.map ref).set o .non)) = H3
    have f3 : Frame [lt] H2 H3 := by
      rw [← hH3]
      exact Frame.wr (List.mem_singleton.mpr rfl)
    have p3 : H3 p = some (.ins T.c_Field dx (ff lt ln S.wk)) := f3 _ _ p2 fun z => n1.1 (List.mem_singleton.mp z)
    have ln3 : H3 ln = some (.lst S.ns) := f3 _ _ ln2 fun z => F.ne (List.mem_singleton.mp z).symm
    have l3 : H3 lt = some (.lst ((S.ts.set o .nil).map ref)) := by
      rw [← hH3, upd_same, List.map_set]
      rfl
    have s3 : TAt T.c_Node H3 s .non := s2.keep f3 fun b hb z => ap.2.1 (by rw [← List.mem_singleton.mp z]; exact hb)
    have u3 : TAt T.c_Node H3 (homed j u) .non := e2.keep f3 fun b hb z => au.2.1 (by rw [homed_addrs] at hb; rw [← List.mem_singleton.mp z]; exact hb)
    have F3 : FAt T.c_Node T.c_Field H0 H3 p dx lt ln ⟨S.ts.set o .nil, S.ns, S.wk⟩ := by
      refine F.repl G.nd hu [] (fun b hb => by cases hb) ?_ p3 l3 ln3 trivial fun b hb => by cases hb
      rw [List.append_nil]
      exact (f2.mono fun b hb => List.mem_cons_of_mem _ (List.mem_cons_of_mem _ (List.mem_cons_of_mem _ hb))).trans (f3.mono fun b hb => by rw [List.mem_singleton.mp hb]; simp)
    have hs3 : (S.ts.set o .nil)[j]? = some s := by
      rw [List.getElem?_set_ne (Ne.symm hne)]
      exact hs
    have hsp : s.spine + (homed j u).spine ≤ 20 := by
      have h1 := spine_le (G.lo s (get_mem hs)) (by omega)
      have h2 := spine_le (homed_LO j (G.lo u (get_mem hu))) (by
        rw [← size_dats, homed_dats, List.length_map, size_dats]
        omega)
      omega
    have hN3 : (Tre.addrs s ++ Tre.addrs (homed j u)).Nodup := by
      rw [homed_addrs]
      exact List.nodup_append.mpr ⟨hNs, hNu, fun x hx y hy e => hP x hx (by rw [e]; exact hy)⟩
    -- self._work = self._plant(heap, self._tops[heap], poured)
    have eref : ref u = ref (homed j u) := by
      cases u with
      | nil => rfl
      | nd n l r => rfl
    refine ⟨_, rfl, p, dx, _, rfl, p3, ff_no (by decide +kernel) (by decide +kernel) (by decide +kernel), _, rfl, _, rfl, p, T.c_Field, dx, _, _, rfl, p3, T.cl_Field, T.n_Field_tops, ff_tops, _, rfl, lt, _, _, _, rfl, rfl, SqL.of l3, at_of (j := j) rfl (by rw [List.getElem?_map, hs3]; rfl), _, rfl, ?_⟩
    refine ⟨p, dx, lt, ln, S.wk, _, j, s, homed j u, .non, .non, by rw [eref]; rfl, p3, l3, by rw [List.length_map]; exact get_len hs3, s3, u3, hN3, hsp, fun H4 t4 l4 f4 => ?_⟩
    rw [homed_addrs] at f4
    have out : ∀ b, b ∉ Tre.addrs s → b ∉ Tre.addrs u → b ≠ lt → b ∉ lt :: (Tre.addrs s ++ Tre.addrs u) := fun b h1 h2 h3 z => by
      rcases List.mem_cons.mp z with z | z
      · exact h3 z
      · exact (List.mem_append.mp z).elim h1 h2
    have p4 : H4 p = some (.ins T.c_Field dx (ff lt ln S.wk)) := f4 _ _ p3 (out p ap.1 au.1 n1.1)
    have ln4 : H4 ln = some (.lst S.ns) := f4 _ _ ln3 (out ln ap.2.2 au.2.2 F.ne.symm)
    refine ⟨_, rfl, p, T.c_Field, dx, _, rfl, p4, T.cl_Field, T.n_Field_work, ff_len, ?_⟩
    rw [ff_put]
    generalize hH5 : upd H4 p (.ins T.c_Field dx (ff lt ln ((join s (homed j u)).2 : Int))) = H5
    have f5 : Frame [p] H4 H5 := by
      rw [← hH5]
      exact Frame.wr (List.mem_singleton.mpr rfl)
    have jin : ∀ b, b ∈ Tre.addrs (join s (homed j u)).1 → b ∈ Tre.addrs s ∨ b ∈ Tre.addrs u := fun b hb => by
      have := (join_addrs _ _).mem_iff.mp hb
      rw [homed_addrs] at this
      exact List.mem_append.mp this
    have t5 : TAt T.c_Node H5 (join s (homed j u)).1 .non := t4.keep f5 fun b hb z => (jin b hb).elim (fun q => ap.1 (by rw [← List.mem_singleton.mp z]; exact q)) fun q => au.1 (by rw [← List.mem_singleton.mp z]; exact q)
    have hnd3 : ((S.ts.set o .nil).flatMap Tre.addrs ++ Tre.addrs u).Nodup := by
      have := flat_set (t := .nil) hu
      rw [addrs_nil, List.append_nil] at this
      exact this.nodup_iff.mpr G.nd
    refine k1 j o rfl rfl hne hj ho H5 ⟨G.pour hs hu hne, dx, lt, ln, ?_⟩
    unfold Fs.pour
    rw [getD_of hs, getD_of hu]
    refine F3.repl (List.nodup_append.mp hnd3).1 hs3 (Tre.addrs u) (fun b hb => ⟨(F.tr _ (get_mem hu)).2 b hb, fun z => (List.nodup_append.mp hnd3).2.2 b z b hb rfl⟩) ?_ ?_ ?_ ?_ t5 fun b hb => ?_
    · have m4 : Frame (p :: lt :: ln :: (Tre.addrs s ++ Tre.addrs u)) H3 H4 := f4.mono fun b hb => by
        rcases List.mem_cons.mp hb with z | z
        · rw [z]
          simp
        · exact List.mem_cons_of_mem _ (List.mem_cons_of_mem _ (List.mem_cons_of_mem _ z))
      exact m4.trans (f5.mono fun b hb => by rw [List.mem_singleton.mp hb]; exact List.mem_cons_self)
    · rw [← hH5, upd_same]
    · rw [f5 _ _ l4 fun z => n1.1 (List.mem_singleton.mp z).symm]
      show _ = some (HO.lst (((S.ts.set o .nil).set j (join s (homed j u)).1).map ref))
      rw [List.map_set (i := j)]
    · exact f5 _ _ ln4 fun z => n1.2 (List.mem_singleton.mp z).symm
    · exact jin b hb
end
/-! ### sinking -/
section
variable {P : Program} {w : World} {K : PySem.W.Frag} {mg : Str → Option Value} {base : Heap}
/-- sink(thing, weight) -/
def sp_sink (C D eT eH : Addr) : Sp := fun vs H Q E => ∃ (H0 : Hp) (p : Addr) (S : Fs) (i w : Int), vs = [.ref p, .int i, .int w] ∧ Fd C D H0 H p S ∧ i.natAbs.log2 < 1920 ∧
  (∀ (k j : Nat) (n : Nd) (l r : Tre) (fs : List Up), i = (k : Int) → S.ts[j]? = some (plug (.nd n l r) fs) → n.i = k → w ≤ n.w → ∀ H', Fd C D H0 H' p (S.sink j n l r w fs) → Q .non H') ∧
  (∀ (k j : Nat) (s : Tre) (d : Dat), i = (k : Int) → S.ts[j]? = some s → d ∈ dats s → d.i = k → d.w < w → (w.natAbs.log2 < 1920 ∧ d.w.natAbs.log2 < 1920) ∧ E (.ref eH) none H) ∧
  ((∀ (k : Nat) (a : Addr), i = (k : Int) → S.ns[k]? ≠ some (.ref a)) → E (.ref eT) none H)
theorem ok_sink (T : Txt K mg) : FnOk P w K mg base (L2.CX P w) 26 T.a_Field_sink T.d_Field_sink ["self", "thing", "weight"] (sp_sink T.c_Node T.c_Field T.e_NoThing T.e_Heavier) := by
  have G_Field_node : FnOk P w K mg base (L2.CX P w) 25 _ _ _ _ := (ok_node T).mono (by decide)
  have G_lesser : FnOk P w K mg base CX0 25 _ _ _ _ := (ok_lesser T).mono (by decide)
  have G_cut_out : FnOk P w K mg base CX0 25 _ _ _ _ := (ok_cut_out T).mono (by decide)
  have G_Field_plant : FnOk P w K mg base CX0 25 _ _ _ _ := ok_plant T
  refine T.F_Field_sink.okX sc_Field_sink (fun vs H Q E h => ?_) (fun cdv A outer s H vs Q E hr h => ?_)
  · obtain ⟨H0, p, S, i, w, rfl, _⟩ := h
    rfl
  · obtain ⟨H0, p, S, i, w, rfl, ⟨G, dx, lt, ln, F⟩, hl, k1, k2, k3⟩ := h
    refine ⟨_, (pss_cons (ps_set (i := 3) sc_Field_sink.nd rfl (.inl rfl) (pe_meth (pv 0) T.cl_Field T.m_Field_node G_Field_node hr T.b_Field_node .nil (E := E) (passes_call (takes_of rfl rfl rfl rfl) (fun _ _ _ _ h => h)) (pa_cons (pv 1) pa_nil)))
  (pss_cons (ps_if (pt_cmpR op_gt (pv 2) (pe_fld (pv 3) rfl) (nomark _))
  (pss_one (ps_raise rfl (takes_of rfl rfl rfl rfl) (pmk_ownA PySem.F.excBase_ValueError T.xHeavier T.gHeavier T.kHeavier (raises_own T.bHeavier T.tHeavier) rfl (pa_cons (pe_joined (.cons pe_str (.cons (pe_fmt (pv 1)) (.cons pe_str (.cons (pe_fmt (pe_fld (pv 3) rfl)) (.cons pe_str (.cons (pe_fmt (pv 2)) .nil))))))) pa_nil))))
  pss_nil)
  (pss_cons (ps_fld (pv 3) (pv 2) rfl)
  (pss_cons (ps_fld (pv 0) pe_int rfl)
  (pss_one (ps_if (PW.pt (pw_and (pt_cmpR op_notN (pe_fld (pv 3) rfl) pe_non (nomark _)) (pw_and1 (pt_val (pe_call G_lesser hr rfl T.g_lesser T.F_lesser.kp T.b_lesser .nil pass0 (pa_cons (pv 3) (pa_cons (pe_fld (pv 3) rfl) pa_nil)))))))
  (pss_cons (ps_set (i := 4) sc_Field_sink.nd rfl (.inl rfl) (pe_call G_cut_out hr rfl T.g_cut_out T.F_cut_out.kp T.b_cut_out .nil pass0 (pa_cons (pv 3) pa_nil)))
  (pss_one (ps_fld (pv 0) (pe_op op_add (pv 4) (pe_meth (pv 0) T.cl_Field T.m_Field_plant G_Field_plant hr T.b_Field_plant .nil pass0 (pa_cons (pe_fld (pv 3) rfl) (pa_cons (pe_ix ix_list (pe_fld (pv 0) rfl) (pe_fld (pv 3) rfl) (fun _ _ => rfl)) (pa_cons (pv 3) pa_nil))))) rfl)))
  pss_nil)))))), ?_⟩
    refine ⟨_, rfl, p, dx, _, rfl, F.ob, ff_no (by decide +kernel) (by decide +kernel) (by decide +kernel), _, rfl, H0, p, dx, lt, ln, S, i, rfl, F, G, hl, fun k a e h => ?_, k3⟩
    obtain ⟨j, s, d, hs, hd, e1, e2⟩ := G.back k a h
    have k2' := k2 k j s d e hs hd e1
    obtain ⟨n, l, r, fs, es, en⟩ := place s d hd
    subst en es
    have ea : n.a = a := e2
    subst ea
    have ei : n.i = k := e1
    have tt := (F.tr _ (get_mem hs)).1
    have ap := F.apart tt
    have n1 := F.pt
    have hNs := G.ndT hs
    have hhome : n.h = j := (G.home j _ hs n.dat hd).1
    have hln := G.len
    have hss := G.size hs
    have hN1 := (plug_addrs fs (.nd n l r)).nodup_iff.mp hNs
    obtain ⟨hNn, hNu, hdj⟩ := nodup_app hN1
    obtain ⟨h1, h2⟩ := (plug_at fs (.nd n l r)).mp tt
    obtain ⟨⟨dn, en⟩, hL, hR⟩ := id h1
    have na : n.a ∈ Tre.addrs (.nd n l r) := by rw [addrs_nd]; exact List.mem_cons_self
    have inS : ∀ b, b ∈ Tre.addrs (.nd n l r) ++ upAddrs fs → b ∈ Tre.addrs (plug (.nd n l r) fs) := fun b hb => (plug_addrs fs (.nd n l r)).mem_iff.mpr hb
    have naS := inS n.a (List.mem_append_left _ na)
    -- if weight > node.weight
    refine ⟨_, rfl, _, rfl, n.a, T.c_Node, dn, _, _, rfl, en, T.cl_Node, T.n_Node_weight, nf_weight, _, _, rfl, rfl, _, rfl, t_2 (fun c => ?_) (fun c => ?_)⟩
    · obtain ⟨⟨hw, hd⟩, kE⟩ := k2' c
      have hd : n.w.natAbs.log2 < 1920 := hd
      have w1 : (Str.empty ++ ("thing " : Str)).length ≤ 6 := by decide +kernel
      have w2 : (" has a weight of " : Str).length ≤ 17 := by decide +kernel
      have w3 : (", which is less than " : Str).length ≤ 21 := by decide +kernel
      have s1 := app_fits w1 (txt_len hl)
      have s2 := app_fits s1 w2
      have s3 := app_fits s2 (txt_len hd)
      have s4 := app_fits s3 w3
      have s5 := app_fits s4 (txt_len hw)
      exact ⟨_, rfl, fits (Nat.le_trans w1 (by decide)), _, rfl, .inr ⟨i, rfl, hl, _, rfl, fits (Nat.le_trans s1 (by decide)), _, rfl, fits (Nat.le_trans s2 (by decide)), _, rfl, n.a, T.c_Node, dn, _, _, rfl, en, T.cl_Node, T.n_Node_weight, nf_weight,
        .inr ⟨n.w, rfl, hd, _, rfl, fits (Nat.le_trans s3 (by decide)), _, rfl, fits (Nat.le_trans s4 (by decide)), _, rfl, .inr ⟨w, rfl, hw, _, rfl, fits (Nat.le_trans s5 (by decide)), (by show 1 ≤ sizeLine; decide), kE⟩⟩⟩⟩
    have hw : w ≤ n.w := by omega
    -- node.weight = weight
    refine ⟨_, rfl, _, rfl, n.a, T.c_Node, dn, _, rfl, en, T.cl_Node, T.n_Node_weight, nf_len, ?_⟩
    rw [put_weight]
    generalize hH1 : upd H n.a (.ins T.c_Node dn (nf n.i w n.h (abv fs) (ref l) (ref r) n.k)) = H1
    have f1 : Frame [n.a] H H1 := by
      rw [← hH1]
      exact Frame.wr (List.mem_singleton.mpr rfl)
    have hNn' := hNn
    rw [addrs_nd, List.nodup_cons] at hNn'
    have t1 : TAt T.c_Node H1 (.nd { n with w := w } l r) (abv fs) := by
      refine ⟨⟨dn, ?_⟩, hL.keep f1 fun b hb z => hNn'.1 (by rw [← List.mem_singleton.mp z]; exact List.mem_append_left _ hb), hR.keep f1 fun b hb z => hNn'.1 (by rw [← List.mem_singleton.mp z]; exact List.mem_append_right _ hb)⟩
      rw [← hH1]
      exact upd_same
    have u1 : UAt T.c_Node H1 (.ref n.a) fs := UAt.keep (show UAt T.c_Node H (.ref n.a) fs from h2) f1 fun b hb z => hdj n.a na (by rw [← List.mem_singleton.mp z]; exact hb)
    have off : ∀ b, b ∉ Tre.addrs (plug (.nd n l r) fs) → b ∉ [n.a] := fun b hb z => hb (by rw [List.mem_singleton.mp z]; exact naS)
    have p1 : H1 p = some (.ins T.c_Field dx (ff lt ln S.wk)) := f1 _ _ F.ob (off _ ap.1)
    have l1 : H1 lt = some (.lst (S.ts.map ref)) := f1 _ _ F.lts (off _ ap.2.1)
    have ln1 : H1 ln = some (.lst S.ns) := f1 _ _ F.lns (off _ ap.2.2)
    -- self._work = 0
    refine ⟨_, rfl, p, T.c_Field, dx, _, rfl, p1, T.cl_Field, T.n_Field_work, ff_len, ?_⟩
    rw [ff_put]
    generalize hH2 : upd H1 p (.ins T.c_Field dx (ff lt ln 0)) = H2
    have f2 : Frame [p] H1 H2 := by
      rw [← hH2]
      exact Frame.wr (List.mem_singleton.mpr rfl)
    have pS : ∀ b, b ∈ Tre.addrs (plug (.nd n l r) fs) → b ∉ [p] := fun b hb z => ap.1 (by rw [← List.mem_singleton.mp z]; exact hb)
    have t2 : TAt T.c_Node H2 (.nd { n with w := w } l r) (abv fs) := t1.keep f2 fun b hb => pS b (inS b (List.mem_append_left _ hb))
    have u2 : UAt T.c_Node H2 (.ref n.a) fs := u1.keep f2 fun b hb => pS b (inS b (List.mem_append_right _ hb))
    have p2 : H2 p = some (.ins T.c_Field dx (ff lt ln 0)) := by rw [← hH2, upd_same]
    have l2 : H2 lt = some (.lst (S.ts.map ref)) := f2 _ _ l1 fun z => n1.1 (List.mem_singleton.mp z).symm
    have ln2 : H2 ln = some (.lst S.ns) := f2 _ _ ln1 fun z => n1.2 (List.mem_singleton.mp z).symm
    have f12 : Frame (p :: lt :: ln :: (Tre.addrs (plug (.nd n l r) fs) ++ [])) H H2 := by
      rw [List.append_nil]
      exact (f1.mono fun b hb => by rw [List.mem_singleton.mp hb]; exact List.mem_cons_of_mem _ (List.mem_cons_of_mem _ (List.mem_cons_of_mem _ naS))).trans (f2.mono fun b hb => by rw [List.mem_singleton.mp hb]; exact List.mem_cons_self)
    obtain ⟨⟨dn2, en2⟩, _, _⟩ := id t2
    have same_addrs : Tre.addrs (.nd { n with w := w } l r) = Tre.addrs (.nd n l r) := by rw [addrs_nd, addrs_nd]
    -- the thing stays where it is
    have stay : sunk n l r w fs = (plug (.nd { n with w := w } l r) fs, 0) → ∀ H3, Same H2 H3 → Q .non H3 := fun e H3 sm => by
      refine k1 k j n l r fs ‹_› hs ei hw H3 ⟨G.sink hs hw, dx, lt, ln, ?_⟩
      unfold Fs.sink
      rw [e]
      have er : ref (plug (.nd { n with w := w } l r) fs) = ref (plug (.nd n l r) fs) := ref_plug fs _ _ (.inr rfl)
      refine F.repl G.nd hs [] (fun b hb => by cases hb) (f12.trans (Frame.same sm)) (sm _ _ p2) ?_ (sm _ _ ln2) (TAt.same ((plug_at fs _).mpr ⟨t2, u2⟩) sm) fun b hb => .inl ?_
      · rw [sm _ _ l2, List.map_set, er]
        refine congrArg (fun q => some (HO.lst q)) ?_
        have z : (S.ts.map ref)[j]? = some (ref (plug (.nd n l r) fs)) := by rw [List.getElem?_map, hs]; rfl
        obtain ⟨zl, ze⟩ := List.getElem?_eq_some_iff.mp z
        rw [← ze, List.set_getElem_self]
      · have q := (plug_addrs fs _).mem_iff.mp hb
        rw [same_addrs] at q
        exact inS b q
    -- if node.above is not None and lesser(node, node.above)
    refine ⟨_, rfl, n.a, T.c_Node, dn2, _, _, rfl, en2, T.cl_Node, T.n_Node_above, nf_above, rfl, _, rfl, ?_⟩
    cases fs with
    | nil => exact iteF (iteF (stay rfl H2 fun _ _ e => e))
    | cons f fs =>
    refine iteT ⟨_, rfl, _, rfl, n.a, T.c_Node, dn2, _, _, rfl, en2, T.cl_Node, T.n_Node_above, nf_above, { n with w := w }, f.n, _, _, _, _, _, _, rfl, ⟨dn2, en2⟩, u2.1, fun H3 sm3 => ⟨_, rfl, ?_⟩⟩
    by_cases c2 : Sp.lt { n with w := w } f.n
    · rw [decide_eq_true c2]
      refine iteT ?_
      have t3 : TAt T.c_Node H3 (plug (.nd { n with w := w } l r) (f :: fs)) .non := TAt.same ((plug_at (f :: fs) _).mpr ⟨t2, u2⟩) sm3
      have hN3 : (Tre.addrs (plug (.nd { n with w := w } l r) (f :: fs))).Nodup := (plug_addrs (f :: fs) _).nodup_iff.mpr (by rw [same_addrs]; exact hN1)
      -- looked_at = cut_out(node)
      refine ⟨_, rfl, { n with w := w }, l, r, f, fs, rfl, t3, hN3, fun H4 t4 c4 f4 => ?_⟩
      rw [same_addrs] at f4
      have ou : ∀ b, b ∉ Tre.addrs (plug (.nd n l r) (f :: fs)) → b ∉ Tre.addrs (.nd n l r) ++ upAddrs (f :: fs) := fun b hb z => hb (inS b z)
      have p4 : H4 p = some (.ins T.c_Field dx (ff lt ln 0)) := f4 _ _ (sm3 _ _ p2) (ou _ ap.1)
      have l4 : H4 lt = some (.lst (S.ts.map ref)) := f4 _ _ (sm3 _ _ l2) (ou _ ap.2.1)
      have ln4 : H4 ln = some (.lst S.ns) := f4 _ _ (sm3 _ _ ln2) (ou _ ap.2.2)
      obtain ⟨⟨dn4, en4⟩, _, _⟩ := id t4
      have en4' : H4 n.a = some (.ins T.c_Node dn4 (nf n.i w (j : Int) .non (ref l) (ref r) n.k)) := by
        rw [← hhome]
        exact en4
      have pc : (Tre.addrs (climb .nil (f :: fs)).1).Perm (upAddrs (f :: fs)) := (climb_dats (f :: fs) .nil).map Dat.a
      have hlo := LO_plug (f :: fs) _ (G.lo _ (get_mem hs))
      have hcs : (climb .nil (f :: fs)).1.size ≤ 1000 := by
        have e1 := (climb_dats (f :: fs) .nil).length_eq
        have e2 := (plug_dats (f :: fs) (.nd n l r)).length_eq
        rw [List.length_append] at e1 e2
        rw [size_dats] at e1 e2
        rw [size_dats] at e2
        have e3 : (dats .nil).length = 0 := rfl
        omega
      have hns : (Tre.nd { n with w := w } l r).size ≤ 1000 := by
        have e2 := (plug_dats (f :: fs) (.nd n l r)).length_eq
        rw [List.length_append, size_dats, size_dats] at e2
        show (Tre.nd n l r).size ≤ 1000
        omega
      have hsp : (climb .nil (f :: fs)).1.spine + (Tre.nd { n with w := w } l r).spine ≤ 20 := by
        have h1 := spine_le (climb_LO (f :: fs) .nil _ trivial hlo.2) hcs
        have h2 := spine_le (nd_w_LO w hlo.1) hns
        omega
      have hNj : (Tre.addrs (climb .nil (f :: fs)).1 ++ Tre.addrs (.nd { n with w := w } l r)).Nodup := by
        rw [same_addrs]
        exact ((pc.append_right _).trans List.perm_append_comm).nodup_iff.mpr hN1
      -- self._work = looked_at + self._plant(node.home, self._tops[node.home], node)
      refine ⟨_, rfl, _, rfl, p, dx, _, rfl, p4, ff_no (by decide +kernel) (by decide +kernel) (by decide +kernel), _, rfl, n.a, T.c_Node, dn4, _, _, rfl, en4', T.cl_Node, T.n_Node_home, nf_home,
        _, rfl, p, T.c_Field, dx, _, _, rfl, p4, T.cl_Field, T.n_Field_tops, ff_tops, _, rfl, n.a, T.c_Node, dn4, _, _, rfl, en4', T.cl_Node, T.n_Node_home, nf_home, lt, _, _, _, rfl, rfl, SqL.of l4, at_of (j := j) rfl (by rw [List.getElem?_map, hs]; rfl), _, rfl, ?_⟩
      refine ⟨p, dx, lt, ln, 0, _, j, (climb .nil (f :: fs)).1, .nd { n with w := w } l r, .non, .non, by rw [ref_climb (f :: fs) .nil (.nd n l r) (.inl (by intro z; cases z))]; rfl, p4, l4, by rw [List.length_map]; exact get_len hs, c4, t4, hNj, hsp, fun H5 t5 l5 f5 => ?_⟩
      rw [same_addrs] at f5
      have inJ : ∀ b, b ∈ Tre.addrs (climb .nil (f :: fs)).1 ++ Tre.addrs (.nd n l r) → b ∈ Tre.addrs (plug (.nd n l r) (f :: fs)) := fun b hb => inS b (((pc.append_right _).trans List.perm_append_comm).mem_iff.mp hb)
      have out : ∀ b, b ∉ Tre.addrs (plug (.nd n l r) (f :: fs)) → b ≠ lt → b ∉ lt :: (Tre.addrs (climb .nil (f :: fs)).1 ++ Tre.addrs (.nd n l r)) := fun b h1 h2 z => (List.mem_cons.mp z).elim h2 fun q => h1 (inJ b q)
      have p5 : H5 p = some (.ins T.c_Field dx (ff lt ln 0)) := f5 _ _ p4 (out _ ap.1 n1.1)
      have ln5 : H5 ln = some (.lst S.ns) := f5 _ _ ln4 (out _ ap.2.2 F.ne.symm)
      refine ⟨_, _, rfl, rfl, _, rfl, p, T.c_Field, dx, _, rfl, p5, T.cl_Field, T.n_Field_work, ff_len, ?_⟩
      rw [ff_put, ← Int.natCast_add]
      generalize hH6 : upd H5 p (.ins T.c_Field dx (ff lt ln (((climb .nil (f :: fs)).2 + (join (climb .nil (f :: fs)).1 (.nd { n with w := w } l r)).2 : Nat) : Int))) = H6
      have f6 : Frame [p] H5 H6 := by
        rw [← hH6]
        exact Frame.wr (List.mem_singleton.mpr rfl)
      have jin : ∀ b, b ∈ Tre.addrs (join (climb .nil (f :: fs)).1 (.nd { n with w := w } l r)).1 → b ∈ Tre.addrs (plug (.nd n l r) (f :: fs)) := fun b hb => by
        have := (join_addrs _ _).mem_iff.mp hb
        rw [same_addrs] at this
        exact inJ b this
      have t6 := t5.keep f6 fun b hb => pS b (jin b hb)
      refine k1 k j n l r (f :: fs) ‹_› hs ei hw H6 ⟨G.sink hs hw, dx, lt, ln, ?_⟩
      unfold Fs.sink
      rw [sunk_yes c2]
      refine F.repl G.nd hs [] (fun b hb => by cases hb) ?_ (by rw [← hH6, upd_same]) ?_ ?_ t6 fun b hb => .inl (jin b hb)
      · refine (f12.trans (Frame.same sm3)).trans ((f4.mono fun b hb => ?_).trans ((f5.mono fun b hb => ?_).trans (f6.mono fun b hb => by rw [List.mem_singleton.mp hb]; exact List.mem_cons_self)))
        · rw [List.append_nil]
          exact List.mem_cons_of_mem _ (List.mem_cons_of_mem _ (List.mem_cons_of_mem _ (inS b hb)))
        · rw [List.append_nil]
          rcases List.mem_cons.mp hb with z | z
          · rw [z]
            simp
          · exact List.mem_cons_of_mem _ (List.mem_cons_of_mem _ (List.mem_cons_of_mem _ (inJ b z)))
      · rw [f6 _ _ l5 fun z => n1.1 (List.mem_singleton.mp z).symm, List.map_set]
      · exact f6 _ _ ln5 fun z => n1.2 (List.mem_singleton.mp z).symm
    · rw [decide_eq_false c2]
      exact iteF (stay (sunk_no c2) H3 sm3)
end
/-! ### how long the numbers are -/
def Lt2 (n : Nat) (c : Int) : Prop := c.natAbs < 2 ^ n
theorem Lt2.bits {n : Nat} {z : Int} (h : Builtin.Int.intBits z ≤ n) : Lt2 n z := by
  unfold Lt2
  unfold Builtin.Int.intBits at h
  by_cases c : z.natAbs = 0
  · rw [c]
    exact Nat.two_pow_pos n
  · refine (Nat.log2_lt c).mp ?_
    have hz : ¬ z = 0 := fun e => c (by rw [e]; rfl)
    split at h
    · rename_i e
      exact absurd (by first | exact e | simpa using e) hz
    · omega
theorem Lt2.log {n : Nat} {c : Int} (h : Lt2 n c) (hn : 0 < n) : c.natAbs.log2 < n := by
  by_cases z : c.natAbs = 0
  · rw [z]
    have : Nat.log2 0 = 0 := by decide
    omega
  · exact (Nat.log2_lt z).mpr h
theorem Lt2.toBits {n : Nat} {c : Int} (h : Lt2 n c) (hn : 0 < n) : Builtin.Int.intBits c ≤ n := Nat.le_trans bits_le (h.log hn)
theorem Lt2.mono {n m : Nat} {c : Int} (h : Lt2 n c) (hm : n ≤ m) : Lt2 m c := Nat.lt_of_lt_of_le h (Nat.pow_le_pow_right (by decide) hm)
theorem Lt2.div {n : Nat} {c d : Int} (h : Lt2 n c) (hd : 0 < d) : Lt2 n (c / d) := Nat.lt_of_le_of_lt (fdiv_abs c hd) h
theorem Lt2.add {n : Nat} {a b : Int} (h : Lt2 n a) (g : Lt2 n b) : Lt2 (n + 1) (a + b) := by
  unfold Lt2 at *
  rw [Nat.pow_succ]
  omega
theorem Lt2.small {n : Nat} {c : Int} (h : c.natAbs < 1099511627776) (hn : 40 ≤ n) : Lt2 n c := by
  have e : (1099511627776 : Nat) = 2 ^ 40 := by decide
  rw [e] at h
  exact Lt2.mono h hn
/-- * of two factors of at most two million bits each -/
def CMulC (i j : Int) : Prop := Lt2 2000000 i ∧ Lt2 2000000 j
theorem CMulC.ok {i j : Int} (h : CMulC i j) : IntMulOk i j := by
  have e : bitsLine = 134217728 := by decide
  unfold IntMulOk
  intro z
  rw [Bool.and_eq_true] at z
  have z2 := z.2
  unfold Builtin.Int.intTooBig at z2
  have z3 := of_decide_eq_true z2
  rw [e] at z3
  have := h.1.toBits (by decide)
  have := h.2.toBits (by decide)
  omega
theorem op_mulC {X : Cx} : OpR X (binaryOp .Mult) (rI CMulC fun i j => .int (i * j)) := opI fun _ _ _ _ _ _ _ hc q => mul_int q hc.ok
theorem ten40 : (10 : Int) ^ (40 : Int).toNat = 10000000000000000000000000000000000000000 := by decide +kernel
theorem fig40 {w : Int} (h : w.natAbs ≤ 10000000000000000000000000000000000000000) : w.natAbs.log2 < 1920 := by
  refine Nat.lt_of_le_of_lt (log2_mono h) ?_
  decide +kernel
/-! ### homes as data: a number, or None -/
def hD : Option Nat → PyData
  | none => .none
  | some j => .int (j : Int)
theorem Dp.home {K : PySem.W.Frag} {H : Hp} : ∀ x : Option Nat, Dp K H (hV x) (hD x)
  | Option.none => Dp.non
  | Option.some j => Dp.int (j : Int)
theorem shaped_home : ∀ x : Option Nat, SeqAt.shaped (hD x) = true
  | none => rfl
  | some _ => rfl
theorem eqv_home (x : Option Nat) (j : Nat) : PyData.eqv (hD x) (.int (j : Int)) = decide (x = some j) := by
  cases x with
  | none => rfl
  | some i =>
    show ((i : Int) == (j : Int)) = _
    by_cases c : i = j
    · subst c
      rw [decide_eq_true rfl]
      exact beq_self_eq_true _
    · rw [decide_eq_false fun e => c (Option.some.inj e)]
      refine beq_eq_false_iff_ne.mpr fun e => c ?_
      omega
theorem upd_upd {H : Hp} {a : Addr} {o u : HO} : upd (upd H a o) a u = upd H a u := by
  funext b
  by_cases c : b = a
  · rw [c, upd_same, upd_same]
  · rw [upd_ne c, upd_ne c, upd_ne c]
theorem upd_eq {H H' : Hp} {a : Addr} {o : HO} (h : H' a = some o) (k : ∀ b, b ≠ a → H' b = H b) : H' = upd H a o := by
  funext b
  by_cases c : b = a
  · rw [c, h, upd_same]
  · rw [k b c, upd_ne c]
/-! ### a list of pairs as data -/
def tupD (q : Int × Int) : PyData := .tuple [.int q.1, .int q.2]
theorem pairs_data : ∀ ps : List (Int × Int), PyData.canLayAll0 (ps.map tupD) = true ∧ PyData.depthAll (ps.map tupD) ≤ 1
  | [] => ⟨by simp [PyData.canLayAll0], by simp [PyData.depthAll]⟩
  | q :: ps => by
    obtain ⟨h1, h2⟩ := pairs_data ps
    refine ⟨?_, ?_⟩
    · rw [List.map_cons, PyData.canLayAll0, h1]
      simp [tupD, PyData.canLay0, PyData.canLayAll0]
    · rw [List.map_cons, PyData.depthAll]
      have e : (tupD q).depth = 1 := by simp [tupD, PyData.depth, PyData.depthAll]
      rw [e]
      omega
theorem pairs_shaped (ps : List (Int × Int)) : SeqAt.shaped (.list (ps.map tupD)) = true := by
  obtain ⟨h1, h2⟩ := pairs_data ps
  unfold SeqAt.shaped
  have e1 : PyData.canLay0 (.list (ps.map tupD)) = true := by rw [PyData.canLay0]; exact h1
  have e2 : PyData.depth (.list (ps.map tupD)) ≤ 64 := by
    rw [PyData.depth]
    omega
  rw [e1, Bool.true_and]
  exact decide_eq_true e2
theorem dpAll_pairs {K : PySem.W.Frag} {H : Hp} : ∀ {as : List Addr} {ps : List (Int × Int)}, as.length = ps.length → (∀ (k : Nat) (a : Addr), as[k]? = some a → ∃ q, ps[k]? = some q ∧ H a = some (.tup [.int q.1, .int q.2])) → DpAll K H (as.map V.ref) (ps.map tupD)
  | [], [], _, _ => .nil
  | [], _ :: _, e, _ => by cases e
  | _ :: _, [], e, _ => by cases e
  | a :: as, q :: ps, e, h => by
    obtain ⟨q', h1, h2⟩ := h 0 a rfl
    cases h1
    exact .cons (Dp.pair h2) (dpAll_pairs (Nat.succ.inj e) fun k b hb => h (k + 1) b hb)
theorem PairsAt.dp {K : PySem.W.Frag} {H : Hp} {D : Addr} {as : List Addr} {ps : List (Int × Int)} (h : PairsAt H D as ps) : Dp K H (.ref D) (.list (ps.map tupD)) := .lst (SqL.of h.lst) (dpAll_pairs h.len h.row)
theorem eqv_nil (ps : List (Int × Int)) : PyData.eqv (.list (ps.map tupD)) (.list []) = decide (ps = []) := by
  cases ps with
  | nil => simp [PyData.eqv, PyData.eqvAll]
  | cons q ps =>
    rw [decide_eq_false (by intro z; cases z)]
    simp [PyData.eqv, PyData.eqvAll]
theorem eqv_list2 (a b : Int) : PyData.eqv (.list [.int a, .int b]) (.list [.int a, .int b]) = true := by
  simp [PyData.eqv, PyData.eqvAll]
theorem Dp.list2 {K : PySem.W.Frag} {H : Hp} {p : Addr} {a b : Int} (h : H p = some (.lst [.int a, .int b])) : Dp K H (.ref p) (.list [.int a, .int b]) := .lst (SqL.of h) (.cons (.int a) (.cons (.int b) .nil))
/-! ### a list of ints as data -/
theorem ints_data : ∀ js : List Int, PyData.canLayAll0 (js.map PyData.int) = true ∧ PyData.depthAll (js.map PyData.int) = 0
  | [] => ⟨by simp [PyData.canLayAll0], by simp [PyData.depthAll]⟩
  | j :: js => by
    obtain ⟨h1, h2⟩ := ints_data js
    refine ⟨?_, ?_⟩
    · rw [List.map_cons, PyData.canLayAll0, h1]
      simp [PyData.canLay0]
    · rw [List.map_cons, PyData.depthAll, h2]
      simp [PyData.depth]
theorem ints_shaped (js : List Int) : SeqAt.shaped (.list (js.map PyData.int)) = true := by
  obtain ⟨h1, h2⟩ := ints_data js
  unfold SeqAt.shaped
  have e1 : PyData.canLay0 (.list (js.map PyData.int)) = true := by rw [PyData.canLay0]; exact h1
  have e2 : PyData.depth (.list (js.map PyData.int)) ≤ 64 := by
    rw [PyData.depth]
    omega
  rw [e1, Bool.true_and]
  exact decide_eq_true e2
theorem dpAll_ints {K : PySem.W.Frag} {H : Hp} : ∀ js : List Int, DpAll K H (js.map V.int) (js.map PyData.int)
  | [] => .nil
  | j :: js => .cons (.int j) (dpAll_ints js)
theorem Dp.ints {K : PySem.W.Frag} {H : Hp} {D : Addr} {js : List Int} (h : H D = some (.lst (js.map V.int))) : Dp K H (.ref D) (.list (js.map PyData.int)) := .lst (SqL.of h) (dpAll_ints js)
theorem eqv_ints_nil (js : List Int) : PyData.eqv (.list (js.map PyData.int)) (.list []) = decide (js = []) := by
  cases js with
  | nil => simp [PyData.eqv, PyData.eqvAll]
  | cons q ps =>
    rw [decide_eq_false (by intro z; cases z)]
    simp [PyData.eqv, PyData.eqvAll]
theorem eqvAll_ints : ∀ js : List Int, PyData.eqvAll (js.map PyData.int) (js.map PyData.int) = true
  | [] => by simp [PyData.eqvAll]
  | j :: js => by
    rw [List.map_cons, PyData.eqvAll, eqvAll_ints js]
    simp [PyData.eqv]
theorem eqv_ints (js : List Int) : PyData.eqv (.list (js.map PyData.int)) (.list (js.map PyData.int)) = true := by
  rw [PyData.eqv]
  exact eqvAll_ints js
section
variable {P : Program} {w : World} {K : PySem.W.Frag} {mg : Str → Option Value} {base : Heap}
/-! ### the law's notes: a dict of things, for each a list of its weight, its parts and its run -/
def keyI (i : Nat) : Key := Sum.inl (i : Int)
theorem keyI_inj {i j : Nat} (h : keyI i = keyI j) : i = j := by
  have := Sum.inl.inj h
  omega
def thO : Tre → Option Nat
  | .nil => none
  | .nd n _ _ => some n.i
theorem thV_thO (t : Tre) : thV t = hV (thO t) := by cases t <;> rfl
def noteL (x : Nd × Tre × Tre) : List V := [.int x.1.w, thV x.2.1, thV x.2.2, .int (x.1.k : Int)]
def idR (x : Nd × Tre × Tre) : Nat := x.1.i
structure NS (H : Hp) (N : Addr) (kvs : List (Key × V)) (R : List (Nd × Tre × Tre)) : Prop where
  d : H N = some (.dK kvs)
  len : kvs.length ≤ R.length
  at_ : ∀ x ∈ R, ∃ a, valV kvs (keyI x.1.i) = some (.ref a) ∧ H a = some (.lst (noteL x))
  all : ∀ q ∈ kvs, ∃ x ∈ R, q.1 = keyI x.1.i
  inj : ∀ (i j : Key) (a : Addr), valV kvs i = some (.ref a) → valV kvs j = some (.ref a) → i = j
  nd : (R.map idR).Nodup
  sz : R.length ≤ 2000
theorem valV_mem {kvs : List (Key × V)} {k : Key} {v : V} (h : valV kvs k = some v) : ∃ q ∈ kvs, q.1 = k := by
  unfold valV at h
  obtain ⟨q, hq, _⟩ := Option.map_eq_some_iff.mp h
  refine ⟨q, List.mem_of_find?_eq_some hq, ?_⟩
  have := List.find?_some hq
  exact of_decide_eq_true this
section
variable {H H' : Hp} {N : Addr} {kvs : List (Key × V)} {R R' : List (Nd × Tre × Tre)} {x x' : Nd × Tre × Tre}
theorem NS.same (h : NS H N kvs R) (s : Same H H') : NS H' N kvs R :=
  ⟨s _ _ h.d, h.len, fun x hx => let ⟨a, h1, h2⟩ := h.at_ x hx; ⟨a, h1, s _ _ h2⟩, h.all, h.inj, h.nd, h.sz⟩
theorem NS.perm (h : NS H N kvs R) (p : R.Perm R') : NS H N kvs R' :=
  ⟨h.d, by rw [← p.length_eq]; exact h.len, fun x hx => h.at_ x (p.mem_iff.mpr hx), fun q hq => let ⟨x, hx, e⟩ := h.all q hq; ⟨x, p.mem_iff.mp hx, e⟩, h.inj, (p.map idR).nodup_iff.mp h.nd, by rw [← p.length_eq]; exact h.sz⟩
theorem NS.live (h : NS H N kvs R) {k : Key} {b : Addr} (e : valV kvs k = some (.ref b)) : ∃ x ∈ R, k = keyI x.1.i ∧ H b = some (.lst (noteL x)) := by
  obtain ⟨q, hq, hk⟩ := valV_mem e
  obtain ⟨x, hx, hqx⟩ := h.all q hq
  obtain ⟨a, h1, h2⟩ := h.at_ x hx
  have ek : k = keyI x.1.i := hk.symm.trans hqx
  rw [← ek, e] at h1
  cases h1
  exact ⟨x, hx, ek, h2⟩
theorem NS.get (h : NS H N kvs R) (hx : x ∈ R) : ∃ a, valV kvs (keyI x.1.i) = some (.ref a) ∧ DGet H N (.int (x.1.i : Int)) (some (.ref a)) ∧ H a = some (.lst (noteL x)) := by
  obtain ⟨a, h1, h2⟩ := h.at_ x hx
  refine ⟨a, h1, ?_, h2⟩
  have := DGet.k (k := keyI x.1.i) h.d
  rw [h1] at this
  exact this
/-- a note written -/
theorem NS.write (h : NS H N kvs (x :: R)) (e : x'.1.i = x.1.i) {a : Addr} (ha : valV kvs (keyI x.1.i) = some (.ref a)) : NS (upd H a (.lst (noteL x'))) N kvs (x' :: R) := by
  obtain ⟨a', h1, h2⟩ := h.at_ x List.mem_cons_self
  rw [ha] at h1
  cases h1
  have nN : N ≠ a := fun z => by
    have := h.d
    rw [z, h2] at this
    cases this
  have nd := h.nd
  rw [List.map_cons, List.nodup_cons] at nd
  refine ⟨by rw [upd_ne nN]; exact h.d, h.len, fun y hy => ?_, fun q hq => ?_, h.inj, ?_, h.sz⟩
  · rcases List.mem_cons.mp hy with z | z
    · rw [z]
      exact ⟨a, by rw [e]; exact ha, upd_same⟩
    · obtain ⟨b, h3, h4⟩ := h.at_ y (List.mem_cons_of_mem _ z)
      refine ⟨b, h3, ?_⟩
      rw [upd_ne fun q => ?_]
      · exact h4
      · rw [q] at h3
        have := keyI_inj (h.inj _ _ _ h3 ha)
        exact nd.1 (List.mem_map.mpr ⟨y, z, this⟩)
  · obtain ⟨y, hy, e2⟩ := h.all q hq
    rcases List.mem_cons.mp hy with z | z
    · exact ⟨x', List.mem_cons_self, by rw [e2, z, e]⟩
    · exact ⟨y, List.mem_cons_of_mem _ z, e2⟩
  · rw [List.map_cons, List.nodup_cons]
    have e3 : idR x' = idR x := e
    rw [e3]
    exact nd
end
/-- all but the notes stays -/
def FrN (kvs : List (Key × V)) (H H' : Hp) : Prop := ∀ b o, H b = some o → (∀ k, valV kvs k ≠ some (.ref b)) → H' b = some o
theorem FrN.refl {kvs : List (Key × V)} {H : Hp} : FrN kvs H H := fun _ _ e _ => e
theorem FrN.trans {kvs : List (Key × V)} {H H1 H2 : Hp} (a : FrN kvs H H1) (b : FrN kvs H1 H2) : FrN kvs H H2 := fun c o e n => b c o (a c o e n) n
theorem FrN.same {kvs : List (Key × V)} {H H' : Hp} (s : Same H H') : FrN kvs H H' := fun b o e _ => s b o e
theorem FrN.wr {kvs : List (Key × V)} {H : Hp} {a : Addr} {o : HO} {k : Key} (h : valV kvs k = some (.ref a)) : FrN kvs H (upd H a o) := fun b u e n => by
  rw [upd_ne fun z => n k (by rw [z]; exact h)]
  exact e
/-- the run of a part -/
def sp_run11 : Sp := fun vs H Q _ => ∃ (N : Addr) (kvs : List (Key × V)) (R : List (Nd × Tre × Tre)) (t : Tre), vs = [.ref N, thV t] ∧ NS H N kvs R ∧ (∀ x ∈ subs t, x ∈ R) ∧ Q (.int (t.rk : Int)) H
theorem ok_run11 (T : Txt K mg) : FnOk P w K mg base CX0 1 T.a_l_run T.d_l_run ["_law_notes", "_law_part"] sp_run11 := by
  refine T.F_l_run.ok sc_l_run (fun vs H Q E h => ?_) (fun cdv A outer s H vs Q E hr h => ?_)
  · obtain ⟨N, kvs, R, t, rfl, _⟩ := h
    rfl
  · obtain ⟨N, kvs, R, t, rfl, ns, sub, k⟩ := h
    refine ⟨_, (pss_cons (ps_if (pt_cmpR op_isN (pv 1) pe_non (nomark _))
  (pss_one (ps_ret pe_int))
  pss_nil)
  (pss_one (ps_ret (pe_ix ix_list (pe_dget (hu_of hr) (pv 0) (pv 1) (fun _ _ => rfl)) pe_int (fun _ _ => rfl))))), ?_⟩
    cases t with
    | nil => exact ⟨_, rfl, rfl, _, rfl, t_yes rfl k⟩
    | nd n l r =>
      obtain ⟨a, h1, h2, h3⟩ := ns.get (sub (n, l, r) List.mem_cons_self)
      refine ⟨_, rfl, rfl, _, rfl, t_no (by intro z; cases z) ?_⟩
      exact ⟨_, rfl, _, rfl, N, .ref a, rfl, h2, a, _, 3, .int (n.k : Int), rfl, rfl, SqL.of h3, rfl, k⟩
/-- the sides set, the run told anew -/
def sp_sided : Sp := fun vs H Q _ => ∃ (N : Addr) (kvs : List (Key × V)) (R : List (Nd × Tre × Tre)) (n : Nd) (l r : Tre), vs = [.ref N, .int (n.i : Int)] ∧ NS H N kvs ((n, l, r) :: (subs l ++ subs r ++ R)) ∧
  ∀ H', NS H' N kvs (subs (mk n l r) ++ R) → FrN kvs H H' → Q .non H'
theorem ok_sided (T : Txt K mg) : FnOk P w K mg base CX0 2 T.a_l_sided T.d_l_sided ["_law_notes", "_law_thing"] sp_sided := by
  have G_l_run : FnOk P w K mg base CX0 1 _ _ _ _ := ok_run11 T
  refine T.F_l_sided.ok sc_l_sided (fun vs H Q E h => ?_) (fun cdv A outer s H vs Q E hr h => ?_)
  · obtain ⟨N, kvs, R, n, l, r, rfl, _⟩ := h
    rfl
  · obtain ⟨N, kvs, R, n, l, r, rfl, ns, k⟩ := h
    refine ⟨_, (pss_cons (ps_set (i := 2) sc_l_sided.nd rfl (.inl rfl) (pe_dget (hu_of hr) (pv 0) (pv 1) (fun _ _ => rfl)))
  (pss_cons (ps_if (pt_cmpR op_gt (pe_call G_l_run hr rfl T.g_l_run T.F_l_run.kp T.b_l_run .nil pass0 (pa_cons (pv 0) (pa_cons (pe_ix ix_list (pv 2) pe_int (fun _ _ => rfl)) pa_nil))) (pe_call G_l_run hr rfl T.g_l_run T.F_l_run.kp T.b_l_run .nil pass0 (pa_cons (pv 0) (pa_cons (pe_ix ix_list (pv 2) pe_int (fun _ _ => rfl)) pa_nil))) (nomark _))
  (pss_cons (ps_set (i := 3) sc_l_sided.nd rfl (.inl rfl) (pe_ix ix_list (pv 2) pe_int (fun _ _ => rfl)))
  (pss_cons (ps_asg (pe_ix ix_list (pv 2) pe_int (fun _ _ => rfl)) (pg_sub (pv 2) pe_int set_list))
  (pss_one (ps_asg (pv 3) (pg_sub (pv 2) pe_int set_list)))))
  pss_nil)
  (pss_one (ps_asg (pe_op op_add pe_int (pe_call G_l_run hr rfl T.g_l_run T.F_l_run.kp T.b_l_run .nil pass0 (pa_cons (pv 0) (pa_cons (pe_ix ix_list (pv 2) pe_int (fun _ _ => rfl)) pa_nil)))) (pg_sub (pv 2) pe_int set_list))))), ?_⟩
    obtain ⟨a, hv, hg, ha⟩ := ns.get List.mem_cons_self
    have inl : ∀ {z : Nd × Tre × Tre}, ∀ x ∈ subs l, x ∈ z :: (subs l ++ subs r ++ R) := fun x hx => List.mem_cons_of_mem _ (List.mem_append_left _ (List.mem_append_left _ hx))
    have inr : ∀ {z : Nd × Tre × Tre}, ∀ x ∈ subs r, x ∈ z :: (subs l ++ subs r ++ R) := fun x hx => List.mem_cons_of_mem _ (List.mem_append_left _ (List.mem_append_right _ hx))
    refine ⟨_, rfl, _, rfl, N, .ref a, rfl, hg, ?_⟩
    refine ⟨_, rfl, _, rfl, a, _, 2, thV r, rfl, rfl, SqL.of ha, rfl, N, kvs, _, r, rfl, ns, inr, _, rfl, _, rfl, a, _, 1, thV l, rfl, rfl, SqL.of ha, rfl, N, kvs, _, l, rfl, ns, inl, _, _, rfl, rfl, _, rfl, t_2 (fun c => ?_) (fun c => ?_)⟩
    · have c2 : l.rk < r.rk := by omega
      refine ⟨_, rfl, a, _, 1, thV l, rfl, rfl, SqL.of ha, rfl, ?_⟩
      refine ⟨_, rfl, a, _, 2, thV r, rfl, rfl, SqL.of ha, rfl, _, rfl, a, _, _, 1, rfl, rfl, ha, Evl.ixN_nat (by show 1 < 4; decide), ?_⟩
      refine ⟨_, rfl, _, rfl, a, _, _, 2, rfl, rfl, upd_same, Evl.ixN_nat (by show 2 < 4; decide), ?_⟩
      rw [upd_upd]
      have ns2 : NS (upd H a (.lst (noteL (n, r, l)))) N kvs ((n, r, l) :: (subs l ++ subs r ++ R)) := ns.write (x' := (n, r, l)) rfl hv
      have e2 : ((noteL (n, l, r)).set 1 (thV r)).set 2 (thV l) = noteL (n, r, l) := rfl
      rw [e2]
      have e3 : upd H a (.lst (noteL (n, r, l))) a = some (.lst (noteL (n, r, l))) := upd_same
      refine ⟨_, rfl, _, rfl, a, _, 2, thV l, rfl, rfl, SqL.of e3, rfl, N, kvs, _, l, rfl, ns2, inl, _, _, rfl, rfl, _, rfl, a, _, _, 3, rfl, rfl, e3, Evl.ixN_nat (by show 3 < 4; decide), ?_⟩
      rw [upd_upd]
      have e4 : (noteL (n, r, l)).set 3 (.int (1 + (l.rk : Int))) = noteL ({ n with k := l.rk + 1 }, r, l) := by
        show [V.int n.w, thV r, thV l, V.int (1 + (l.rk : Int))] = [V.int n.w, thV r, thV l, V.int ((l.rk + 1 : Nat) : Int)]
        rw [Int.natCast_add, Int.add_comm]
        rfl
      rw [e4]
      have ns3 : NS (upd H a (.lst (noteL ({ n with k := l.rk + 1 }, r, l)))) N kvs (({ n with k := l.rk + 1 }, r, l) :: (subs l ++ subs r ++ R)) := ns.write (x' := ({ n with k := l.rk + 1 }, r, l)) rfl hv
      refine k _ (ns3.perm ?_) (FrN.wr hv)
      unfold mk
      rw [if_pos c2]
      show ((_ : Nd × Tre × Tre) :: (subs l ++ subs r ++ R)).Perm ((_ : Nd × Tre × Tre) :: (subs r ++ subs l) ++ R)
      exact List.Perm.cons _ (List.perm_append_comm.append_right _)
    · have c2 : ¬ l.rk < r.rk := by omega
      refine ⟨_, rfl, _, rfl, a, _, 2, thV r, rfl, rfl, SqL.of ha, rfl, N, kvs, _, r, rfl, ns, inr, _, _, rfl, rfl, _, rfl, a, _, _, 3, rfl, rfl, ha, Evl.ixN_nat (by show 3 < 4; decide), ?_⟩
      have e4 : (noteL (n, l, r)).set 3 (.int (1 + (r.rk : Int))) = noteL ({ n with k := r.rk + 1 }, l, r) := by
        show [V.int n.w, thV l, thV r, V.int (1 + (r.rk : Int))] = [V.int n.w, thV l, thV r, V.int ((r.rk + 1 : Nat) : Int)]
        rw [Int.natCast_add, Int.add_comm]
        rfl
      rw [e4]
      have ns3 : NS (upd H a (.lst (noteL ({ n with k := r.rk + 1 }, l, r)))) N kvs (({ n with k := r.rk + 1 }, l, r) :: (subs l ++ subs r ++ R)) := ns.write (x' := ({ n with k := r.rk + 1 }, l, r)) rfl hv
      refine k _ ?_ (FrN.wr hv)
      unfold mk
      rw [if_neg c2]
      exact ns3
/-! ### two trees of notes joined -/
theorem nil_or_snoc {α : Type} (l : List α) : l = [] ∨ ∃ us t, l = us ++ [t] := by
  rcases List.eq_nil_or_concat l with e | ⟨us, t, e⟩
  · exact .inl e
  · exact .inr ⟨us, t, by rw [e, List.concat_eq_append]⟩
/-- going back up a path -/
def ups : List (Nd × Tre × Tre) → Tre × Nat → Tre × Nat
  | [], z => z
  | x :: p, z => (mk x.1 x.2.1 (ups p z).1, (ups p z).2 + 1)
theorem ups_snoc (x : Nd × Tre × Tre) (z : Tre × Nat) : ∀ p, ups (p ++ [x]) z = ups p (mk x.1 x.2.1 z.1, z.2 + 1)
  | [] => rfl
  | y :: p => by
    rw [List.cons_append]
    show (mk y.1 y.2.1 (ups (p ++ [x]) z).1, (ups (p ++ [x]) z).2 + 1) = (mk y.1 y.2.1 (ups p _).1, (ups p _).2 + 1)
    rw [ups_snoc x z p]
/-- the left parts along a path -/
def lefts (p : List (Nd × Tre × Tre)) : List (Nd × Tre × Tre) := p.flatMap fun x => subs x.2.1
theorem lefts_snoc (p : List (Nd × Tre × Tre)) (x : Nd × Tre × Tre) : lefts (p ++ [x]) = lefts p ++ subs x.2.1 := by
  unfold lefts
  rw [List.flatMap_append]
  simp
theorem thV_mk (n : Nd) (l r : Tre) : thV (mk n l r) = .int (n.i : Int) := by
  unfold mk
  split <;> rfl
theorem subs_nd (n : Nd) (l r : Tre) : subs (.nd n l r) = (n, l, r) :: (subs l ++ subs r) := rfl
def sp_joined11 : Sp := fun vs H Q _ => ∃ (N : Addr) (kvs : List (Key × V)) (R : List (Nd × Tre × Tre)) (s t : Tre), vs = [.ref N, thV s, thV t] ∧ NS H N kvs (subs s ++ subs t ++ R) ∧ (subs s ++ subs t ++ R).length ≤ 2000 ∧
  ∀ H' q, NS H' N kvs (subs (join s t).1 ++ R) → FrN kvs H H' → H q = none → H' q = some (.tup [thV (join s t).1, .int ((join s t).2 : Int)]) → Q (.ref q) H'
theorem perm_in {A L X Y Z R : List (Nd × Tre × Tre)} (x : Nd × Tre × Tre) : (A ++ L ++ (x :: (X ++ Y)) ++ Z ++ R).Perm ((A ++ [x]) ++ (L ++ X) ++ Y ++ Z ++ R) := by
  refine List.Perm.append_right _ (List.Perm.append_right _ ?_)
  have h : (A ++ L ++ (x :: (X ++ Y))).Perm (A ++ (x :: (L ++ (X ++ Y)))) := by
    rw [List.append_assoc]
    exact List.Perm.append_left _ List.perm_middle
  refine h.trans ?_
  rw [List.append_assoc A [x], List.append_assoc, List.singleton_append, List.cons_append, List.append_assoc L X Y]
theorem perm_in2 {A L X Y Z R : List (Nd × Tre × Tre)} (x : Nd × Tre × Tre) : (A ++ L ++ Z ++ (x :: (X ++ Y)) ++ R).Perm ((A ++ [x]) ++ (L ++ X) ++ Z ++ Y ++ R) := by
  have h1 : (A ++ L ++ Z ++ (x :: (X ++ Y)) ++ R).Perm (A ++ L ++ (x :: (X ++ Y)) ++ Z ++ R) := by
    refine List.Perm.append_right _ ?_
    rw [List.append_assoc (A ++ L), List.append_assoc (A ++ L)]
    exact List.Perm.append_left _ List.perm_append_comm
  refine h1.trans ((perm_in x).trans (List.Perm.append_right _ ?_))
  rw [List.append_assoc ((A ++ [x]) ++ (L ++ X)), List.append_assoc ((A ++ [x]) ++ (L ++ X))]
  exact List.Perm.append_left _ List.perm_append_comm
theorem perm_out {A L X Z R : List (Nd × Tre × Tre)} (x : Nd × Tre × Tre) : ((A ++ [x]) ++ (L ++ X) ++ Z ++ R).Perm (x :: (X ++ Z ++ (A ++ L ++ R))) := by
  have h1 : ((A ++ [x]) ++ (L ++ X) ++ Z ++ R).Perm (x :: (A ++ (L ++ X) ++ Z ++ R)) := by
    rw [show (A ++ [x] ++ (L ++ X) ++ Z ++ R) = (A ++ x :: ((L ++ X) ++ Z ++ R)) by simp]
    refine List.perm_middle.trans (List.Perm.cons _ ?_)
    rw [show (A ++ ((L ++ X) ++ Z ++ R)) = (A ++ (L ++ X) ++ Z ++ R) by simp]
  refine h1.trans (List.Perm.cons _ ?_)
  have h2 : (A ++ (L ++ X) ++ Z ++ R) = ((A ++ L) ++ (X ++ Z) ++ R) := by simp
  rw [h2]
  have h3 : ((A ++ L) ++ (X ++ Z) ++ R).Perm ((X ++ Z) ++ (A ++ L) ++ R) := List.Perm.append_right _ List.perm_append_comm
  refine h3.trans ?_
  rw [List.append_assoc (X ++ Z)]
theorem join_comm {s t : Tre} (h : ∀ i, thO s = some i → thO t = some i → False) : join s t = join t s := by
  cases s with
  | nil => rw [join_nil, join_nil2]
  | nd n l r =>
    cases t with
    | nil => rw [join_nil, join_nil2]
    | nd m p q =>
      have hne : n.i ≠ m.i := fun e => h n.i rfl (by rw [e]; rfl)
      rw [join_nd, join_nd]
      by_cases c : lt m n
      · have c2 : ¬ lt n m := fun z => lt_irrefl (lt_trans c z)
        rw [if_pos c, if_neg c2]
      · have c2 : lt n m := lt_total (fun e => hne e.symm) c
        rw [if_neg c, if_pos c2]
theorem dget_of {H : Hp} {N a : Addr} {kvs : List (Key × V)} {i : Nat} (d : H N = some (.dK kvs)) (hv : valV kvs (keyI i) = some (.ref a)) : DGet H N (.int (i : Int)) (some (.ref a)) := by
  have := DGet.k (k := keyI i) d
  rw [hv] at this
  exact this
theorem NS.free {H H' : Hp} {N q : Addr} {kvs : List (Key × V)} {R : List (Nd × Tre × Tre)} (ns : NS H' N kvs R) (f : FrN kvs H H') (hq : H' q = none) : H q = none := by
  cases e : H q with
  | none => rfl
  | some o =>
    by_cases c : ∀ k, valV kvs k ≠ some (.ref q)
    · rw [f q o e c] at hq
      cases hq
    · obtain ⟨k, hk⟩ := Classical.not_forall.mp c
      obtain ⟨x, _, _, h2⟩ := ns.live (Classical.not_not.mp hk)
      rw [h2] at hq
      cases hq
theorem ok_joined11 (T : Txt K mg) : FnOk P w K mg base CX0 3 T.a_l_joined T.d_l_joined ["_law_notes", "_law_one", "_law_other"] sp_joined11 := by
  have G_l_sided : FnOk P w K mg base CX0 2 _ _ _ _ := ok_sided T
  refine T.F_l_joined.ok sc_l_joined (fun vs H Q E h => ?_) (fun cdv A outer s H vs Q E hr h => ?_)
  · obtain ⟨N, kvs, R, s, t, rfl, _⟩ := h
    rfl
  · obtain ⟨N, kvs, R, s, t, rfl, ns, hlen, k⟩ := h
    refine ⟨_, (pss_cons (ps_set (i := 3) sc_l_joined.nd rfl (.inl rfl) (pe_lst pa_nil))
  (C8.pss_cut (ps_while PassesOwn.never (PW.pt (pw_and (pt_cmpR op_notN (pv 1) pe_non (nomark _)) (pw_and1 (pt_cmpR op_notN (pv 2) pe_non (nomark _)))))
  (pss_one (ps_if (pt_cmpR (op_ltT hr.units0) (pe_tup (pa_cons (pe_ix ix_list (pe_dget (hu_of hr) (pv 0) (pv 2) (fun _ _ => rfl)) pe_int (fun _ _ => rfl)) (pa_cons (pv 2) pa_nil))) (pe_tup (pa_cons (pe_ix ix_list (pe_dget (hu_of hr) (pv 0) (pv 1) (fun _ _ => rfl)) pe_int (fun _ _ => rfl)) (pa_cons (pv 1) pa_nil))) (nomark _))
  (pss_cons (ps_expr (pe_bm PySem.F.plainAttrs_list PySem.F.slot_list_append PySem.F.type_list_append mt_append (pv 3) (pa_cons (pv 2) pa_nil)))
  (pss_one (ps_set (i := 2) sc_l_joined.nd rfl (.inl rfl) (pe_ix ix_list (pe_dget (hu_of hr) (pv 0) (pv 2) (fun _ _ => rfl)) pe_int (fun _ _ => rfl)))))
  (pss_cons (ps_expr (pe_bm PySem.F.plainAttrs_list PySem.F.slot_list_append PySem.F.type_list_append mt_append (pv 3) (pa_cons (pv 1) pa_nil)))
  (pss_one (ps_set (i := 1) sc_l_joined.nd rfl (.inl rfl) (pe_ix ix_list (pe_dget (hu_of hr) (pv 0) (pv 1) (fun _ _ => rfl)) pe_int (fun _ _ => rfl))))))))
  (pss_cons (ps_set (i := 4) sc_l_joined.nd rfl (.inl rfl) (pv 1))
  (C8.pss_cut (ps_if (pt_cmpR op_isN (pv 4) pe_non (nomark _))
  (pss_one (ps_set (i := 4) sc_l_joined.nd rfl (.inl rfl) (pv 2)))
  pss_nil)
  (pss_cons (ps_for PassesOwn.never rfl (pi_range1 (by rfl) T.z_range (pa_cons (pe_callB call_len_seq (by rfl) T.z_len PySem.boot_len (pa_cons (pv 3) pa_nil)) pa_nil)) (pg_name (i := 5) sc_l_joined.nd rfl (.inl rfl))
  (pss_cons (ps_set (i := 6) sc_l_joined.nd rfl (.inl rfl) (pe_ix ix_list (pv 3) (pe_op op_sub (pe_op op_sub (pe_callB call_len_seq (by rfl) T.z_len PySem.boot_len (pa_cons (pv 3) pa_nil)) pe_int) (pv 5)) (fun _ _ => rfl)))
  (pss_cons (ps_asg (pv 4) (pg_sub (pe_dget (hu_of hr) (pv 0) (pv 6) (fun _ _ => rfl)) pe_int set_list))
  (pss_cons (ps_expr (pe_call G_l_sided hr rfl T.g_l_sided T.F_l_sided.kp T.b_l_sided .nil pass0 (pa_cons (pv 0) (pa_cons (pv 6) pa_nil))))
  (pss_one (ps_set (i := 4) sc_l_joined.nd rfl (.inl rfl) (pv 6)))))))
  (pss_one (ps_ret (pe_tup (pa_cons (pv 4) (pa_cons (pe_callB call_len_seq (by rfl) T.z_len PySem.boot_len (pa_cons (pv 3) pa_nil)) pa_nil)))))))))), ?_⟩
    refine ⟨Nat.zero_le _, fun P0 hP0 => ?_⟩
    have nP0 : ∀ k, valV kvs k ≠ some (.ref P0) := fun k e => by
      obtain ⟨x, _, _, h2⟩ := ns.live e
      rw [hP0] at h2
      cases h2
    -- down
    refine ⟨fun (σ : List (Option V)) (H' : Hp) => ∃ (path : List (Nd × Tre × Tre)) (z : Tre) (v1 v2 : V), σ = [some (V.ref N), some v1, some v2, some (V.ref P0), none, none, none] ∧ (v1 = thV z ∧ z ≠ .nil ∨ v1 = .non ∧ v2 = thV z) ∧ Same H H' ∧ H' P0 = some (.lst (path.map fun x => V.int (x.1.i : Int))) ∧
      join s t = ups path (z, 0) ∧ (subs s ++ subs t ++ R).Perm (path ++ lefts path ++ subs z ++ R) ∧ path.length ≤ 2000, ?_, ?_⟩
    · refine ⟨fun (m : Nat) (σ : L2.St) (H' : Hp) => ∃ (path : List (Nd × Tre × Tre)) (s' t' : Tre), m = s'.spine + t'.spine ∧ σ = [some (V.ref N), some (thV s'), some (thV t'), some (V.ref P0), none, none, none] ∧ Same H H' ∧ H' P0 = some (.lst (path.map fun x => V.int (x.1.i : Int))) ∧
        join s t = ups path (join s' t') ∧ (subs s ++ subs t ++ R).Perm (path ++ lefts path ++ subs s' ++ subs t' ++ R), ⟨_, [], s, t, rfl, rfl, same_new hP0, upd_same, rfl, List.Perm.refl _⟩, ?_⟩
      rintro M σ H' ⟨path, s', t', rfl, rfl, sH, eP, ej, pm⟩
      have lp : path.length ≤ 2000 := by
        have h1 := pm.length_eq
        have h2 := hlen
        simp only [List.length_append] at h1 h2
        omega
      refine ⟨_, rfl, rfl, _, rfl, ?_⟩
      cases s' with
      | nil =>
        refine iteF (iteF ?_)
        exact ⟨path, t', _, _, rfl, .inr ⟨rfl, rfl⟩, sH, eP, by rw [ej, join_nil], by rw [show subs .nil = [] from rfl, List.append_nil] at pm; exact pm, lp⟩
      | nd n l r =>
      refine iteT ⟨_, rfl, rfl, _, rfl, ?_⟩
      cases t' with
      | nil =>
        refine iteF ?_
        exact ⟨path, .nd n l r, _, _, rfl, .inl ⟨rfl, fun z => by cases z⟩, sH, eP, by rw [ej, join_nil2], by rw [show subs .nil = [] from rfl, List.append_nil] at pm; exact pm, lp⟩
      | nd m p q =>
      refine iteT ⟨_, fun _ _ h => h, ?_⟩
      have ns' := (ns.same sH).perm pm
      have mem1 : (n, l, r) ∈ path ++ lefts path ++ subs (.nd n l r) ++ subs (.nd m p q) ++ R := List.mem_append_left _ (List.mem_append_left _ (List.mem_append_right _ List.mem_cons_self))
      have mem2 : (m, p, q) ∈ path ++ lefts path ++ subs (.nd n l r) ++ subs (.nd m p q) ++ R := List.mem_append_left _ (List.mem_append_right _ List.mem_cons_self)
      obtain ⟨a, hva, hga, ha⟩ := ns'.get mem1
      obtain ⟨b, hvb, hgb, hb⟩ := ns'.get mem2
      have nd' := ns'.nd
      rw [subs_nd, subs_nd] at nd'
      refine ⟨_, rfl, _, rfl, N, .ref b, rfl, hgb, b, _, 0, .int m.w, rfl, rfl, SqL.of hb, rfl, _, rfl, (by show 2 ≤ sizeLine; decide), fun q1 hq1 => ?_⟩
      have s1 : Same H' (upd H' q1 (.tup [.int m.w, .int (m.i : Int)])) := same_new hq1
      refine ⟨_, rfl, _, rfl, N, .ref a, rfl, dget_of (s1 _ _ ns'.d) hva, a, _, 0, .int n.w, rfl, rfl, SqL.of (s1 _ _ ha), rfl, _, rfl, (by show 2 ≤ sizeLine; decide), fun q2 hq2 => ?_⟩
      have s2 := same_new (o := .tup [.int n.w, .int (n.i : Int)]) hq2
      refine ⟨q1, q2, [m.w, (m.i : Int)], [n.w, (n.i : Int)], rfl, rfl, SqT.of (s2 _ _ upd_same), SqT.of upd_same, ?_⟩
      rw [lex_lt, show (Tre.nd m p q).thV = V.int (m.i : Int) from rfl, show (Tre.nd n l r).thV = V.int (n.i : Int) from rfl]
      have s3 : Same H' (upd (upd H' q1 (.tup [.int m.w, .int (m.i : Int)])) q2 (.tup [.int n.w, .int (n.i : Int)])) := fun b o e => s2 _ _ (s1 _ _ e)
      generalize upd (upd H' q1 (.tup [.int m.w, .int (m.i : Int)])) q2 (.tup [.int n.w, .int (n.i : Int)]) = H3 at s3 ⊢
      clear s1 s2 hq1 hq2
      have eP3 := s3 _ _ eP
      have sH3 : Same H H3 := fun b o e => s3 _ _ (sH _ _ e)
      have frP : ∀ {x : V}, Same H (upd H3 P0 (.lst (path.map (fun x => V.int (x.1.i : Int)) ++ [x]))) := fun b o e => by
        rw [upd_ne (ne_of_none e hP0)]
        exact sH3 _ _ e
      have NP : N ≠ P0 := fun z => by
        have := ns.d
        rw [z, hP0] at this
        cases this
      have aP : ∀ {a : Addr} {k : Key}, valV kvs k = some (.ref a) → a ≠ P0 := fun e z => nP0 _ (by rw [← z]; exact e)
      have szP : (path.map fun x : Nd × Tre × Tre => V.int (x.1.i : Int)).length < sizeLine := Evl.sz_lt (by rw [List.length_map]; omega)
      refine ⟨_, rfl, t_2 (fun c => ?_) (fun c => ?_)⟩
      · refine ⟨_, rfl, .inl ⟨rfl, _, SqL.of eP3⟩, _, rfl, P0, _, _, rfl, rfl, eP3, szP, ?_⟩
        refine ⟨_, rfl, _, rfl, N, .ref b, rfl, dget_of (by rw [upd_ne NP]; exact s3 _ _ ns'.d) hvb, b, _, 2, thV q, rfl, rfl, SqL.of (by rw [upd_ne (aP hvb)]; exact s3 _ _ hb), rfl, ?_⟩
        refine ⟨_, ?_, path ++ [(m, p, q)], .nd n l r, q, rfl, rfl, frP, ?_, ?_, ?_⟩
        · show r.spine + 1 + q.spine < r.spine + 1 + (q.spine + 1)
          omega
        · rw [upd_same, List.map_append]
          rfl
        · rw [ej, join_nd, if_pos c, ups_snoc]
          refine congrArg (ups path) ?_
          show (mk m p (join q (.nd n l r)).1, (join q (.nd n l r)).2 + 1) = _
          rw [join_comm fun i h1 h2 => ?_]
          cases q with
          | nil => cases h1
          | nd m2 p2 q2 =>
            have e1 := Option.some.inj h1
            have e2 := Option.some.inj h2
            rw [subs_nd m2, List.map_append, List.map_append, List.map_append, List.nodup_append] at nd'
            refine absurd (e2.trans e1.symm) ((List.nodup_append.mp nd'.1).2.2 _ (List.mem_append_right _ List.mem_cons_self) _ (List.mem_cons_of_mem _ ?_))
            rw [List.map_append]
            exact List.mem_append_right _ List.mem_cons_self
        · rw [lefts_snoc]
          exact pm.trans (perm_in2 (m, p, q))
      · refine ⟨_, rfl, .inl ⟨rfl, _, SqL.of eP3⟩, _, rfl, P0, _, _, rfl, rfl, eP3, szP, ?_⟩
        refine ⟨_, rfl, _, rfl, N, .ref a, rfl, dget_of (by rw [upd_ne NP]; exact s3 _ _ ns'.d) hva, a, _, 2, thV r, rfl, rfl, SqL.of (by rw [upd_ne (aP hva)]; exact s3 _ _ ha), rfl, ?_⟩
        refine ⟨_, ?_, path ++ [(n, l, r)], r, .nd m p q, rfl, rfl, frP, ?_, ?_, ?_⟩
        · show r.spine + (q.spine + 1) < r.spine + 1 + (q.spine + 1)
          omega
        · rw [upd_same, List.map_append]
          rfl
        · rw [ej, join_nd, if_neg c, ups_snoc]
        · rw [lefts_snoc]
          exact pm.trans (perm_in (n, l, r))
    · rintro σ H' ⟨path, z, v1, v2, rfl, hz, sH, eP, ej, pm, lp⟩
      refine ⟨_, rfl, fun (σ : List (Option V)) (H2 : Hp) => σ = [some (V.ref N), some v1, some v2, some (V.ref P0), some (thV z), none, none] ∧ H2 = H', ?_, ?_⟩
      · rcases hz with ⟨h1, h2⟩ | ⟨h1, h2⟩
        · refine ⟨_, rfl, rfl, _, rfl, t_no (fun e => h2 ?_) ⟨by rw [h1]; rfl, rfl⟩⟩
          rw [h1] at e
          cases z with
          | nil => rfl
          | nd => cases e
        · exact ⟨_, rfl, rfl, _, rfl, t_yes h1 ⟨_, rfl, by rw [h2]; rfl, rfl⟩⟩
      rintro σ H2 ⟨rfl, rfl⟩
      have eL : (path.map fun x : Nd × Tre × Tre => V.int (x.1.i : Int)).length = path.length := List.length_map _
      refine ⟨_, rfl, P0, _, rfl, .inl (SqL.of eP), _, rfl, by omega, by rw [eL]; omega, for_range (lo := 0) (n := _) (fun i σ H3 => ∃ (A B : List (Nd × Tre × Tre)) (z : Tre) (v5 v6 : Option V), σ = [some (V.ref N), some v1, some v2, some (V.ref P0), some (thV z), v5, v6] ∧
        path = A ++ B ∧ B.length = i ∧ join s t = ups A (z, i) ∧ NS H3 N kvs (A ++ lefts A ++ subs z ++ R) ∧ FrN kvs H H3 ∧ H3 P0 = some (.lst (path.map fun x => V.int (x.1.i : Int)))) ⟨path, [], z, none, none, rfl, (List.append_nil _).symm, rfl, ej, (ns.same sH).perm pm, FrN.same sH, eP⟩ ?_ ?_⟩
      · rintro i σ H3 hi ⟨A, B, z, v5, v6, rfl, rfl, lB, ej, ns3, f3, eP3⟩
        rw [Int.toNat_natCast, eL, List.length_append] at hi
        rw [Int.zero_add]
        rcases nil_or_snoc A with rfl | ⟨A', ⟨n, l, r0⟩, rfl⟩
        · exact absurd hi (by rw [List.length_nil]; omega)
        have nsx : NS H3 N kvs ((n, l, r0) :: (subs l ++ subs z ++ (A' ++ lefts A' ++ R))) := by
          rw [lefts_snoc] at ns3
          exact ns3.perm (perm_out (n, l, r0))
        obtain ⟨a, hva, hga, ha⟩ := nsx.get List.mem_cons_self
        have atn : ((A' ++ [(n, l, r0)] ++ B).map fun x : Nd × Tre × Tre => V.int (x.1.i : Int))[A'.length]? = some (V.int (n.i : Int)) := by
          rw [List.getElem?_map, List.append_assoc, List.getElem?_append_right (Nat.le_refl _), Nat.sub_self]
          rfl
        rw [List.length_append, List.length_singleton] at hi
        refine ⟨_, rfl, _, rfl, P0, _, rfl, .inl (SqL.of eP3), _, _, rfl, rfl, _, rfl, _, _, rfl, rfl, P0, _, _, _, rfl, rfl, SqL.of eP3, at_of (j := A'.length) (by rw [List.length_map, List.length_append, List.length_append, List.length_singleton]; omega) atn, ?_⟩
        refine ⟨_, rfl, _, rfl, _, rfl, N, .ref a, rfl, hga, a, _, _, 2, rfl, rfl, ha, Evl.ixN_nat (by show 2 < 4; decide), ?_⟩
        have ns4 : NS (upd H3 a (.lst (noteL (n, l, z)))) N kvs ((n, l, z) :: (subs l ++ subs z ++ (A' ++ lefts A' ++ R))) := nsx.write (x' := (n, l, z)) rfl hva
        have e4 : (noteL (n, l, r0)).set 2 (thV z) = noteL (n, l, z) := rfl
        rw [e4]
        refine ⟨_, rfl, _, rfl, N, kvs, A' ++ lefts A' ++ R, n, l, z, rfl, ns4, fun H5 ns5 f5 => ?_⟩
        have f35 : FrN kvs H3 H5 := (FrN.wr hva).trans f5
        refine ⟨_, rfl, A', (n, l, r0) :: B, mk n l z, some (V.int (i : Int)), some (V.int (n.i : Int)), ?_, by simp, by rw [List.length_cons, lB], ?_, ns5.perm ?_, f3.trans f35, f35 _ _ eP3 nP0⟩
        · rw [thV_mk]
          rfl
        · rw [ej, ups_snoc]
        · have : (subs (mk n l z) ++ (A' ++ lefts A' ++ R)).Perm ((A' ++ lefts A') ++ (subs (mk n l z)) ++ R) := by
            rw [← List.append_assoc]
            exact List.Perm.append_right _ List.perm_append_comm
          exact this
      · rintro σ H3 ⟨A, B, z, v5, v6, rfl, hAB, lB, ej, ns3, f3, eP3⟩
        rw [Int.toNat_natCast, eL] at lB ej
        have hA : A = [] := by
          have := congrArg List.length hAB
          rw [List.length_append] at this
          exact List.eq_nil_of_length_eq_zero (by omega)
        subst hA
        have ej2 : join s t = (z, path.length) := ej
        refine ⟨_, rfl, _, rfl, P0, _, rfl, .inl (SqL.of eP3), (by show 2 ≤ sizeLine; decide), fun q hq => ?_⟩
        have sq := same_new (o := .tup [thV z, .int (((path.map fun x : Nd × Tre × Tre => V.int (x.1.i : Int)).length : Nat) : Int)]) hq
        refine k _ q (by rw [ej2]; exact ns3.same sq) (f3.trans (FrN.same sq)) (ns3.free f3 hq) ?_
        rw [ej2, upd_same, eL]
/-! ### whose part a thing is -/
theorem flat_one (R : List (Nd × Tre × Tre)) : R.flatMap (fun z => [idR z]) = R.map idR := by
  induction R with
  | nil => rfl
  | cons x R ih =>
    rw [List.flatMap_cons, ih]
    rfl
def kid (x : Nd × Tre × Tre) (i : Nat) : Prop := thO x.2.1 = some i ∨ thO x.2.2 = some i
def kidsL (x : Nd × Tre × Tre) : List Nat := (thO x.2.1).toList ++ (thO x.2.2).toList
theorem kid_mem {x : Nd × Tre × Tre} {i : Nat} : kid x i ↔ i ∈ kidsL x := by
  unfold kid kidsL
  rw [List.mem_append, Option.mem_toList, Option.mem_toList]
theorem kids_perm : ∀ t : Tre, ((thO t).toList ++ (subs t).flatMap kidsL).Perm ((subs t).map idR)
  | .nil => List.Perm.refl _
  | .nd n l r => by
    rw [subs_nd, List.flatMap_cons, List.flatMap_append, List.map_cons, List.map_append]
    show (n.i :: (kidsL (n, l, r) ++ ((subs l).flatMap kidsL ++ (subs r).flatMap kidsL))).Perm (n.i :: _)
    refine List.Perm.cons _ ?_
    have h1 := kids_perm l
    have h2 := kids_perm r
    refine List.Perm.trans ?_ (h1.append h2)
    show ((thO l).toList ++ (thO r).toList ++ ((subs l).flatMap kidsL ++ (subs r).flatMap kidsL)).Perm _
    rw [List.append_assoc, List.append_assoc]
    refine List.Perm.append_left _ ?_
    rw [← List.append_assoc, ← List.append_assoc]
    exact List.Perm.append_right _ List.perm_append_comm
theorem uniq_flat {α : Type} {f : α → List Nat} {i : Nat} : ∀ {l : List α} {x y : α}, (l.flatMap f).Nodup → x ∈ l → y ∈ l → i ∈ f x → i ∈ f y → x = y
  | [], _, _, _, h, _, _, _ => by cases h
  | z :: l, x, y, hnd, hx, hy, ix, iy => by
    rw [List.flatMap_cons, List.nodup_append] at hnd
    rcases List.mem_cons.mp hx with ex | ex
    · rcases List.mem_cons.mp hy with ey | ey
      · rw [ex, ey]
      · rw [ex] at ix
        exact absurd rfl (hnd.2.2 i ix i (List.mem_flatMap.mpr ⟨y, ey, iy⟩))
    · rcases List.mem_cons.mp hy with ey | ey
      · rw [ey] at iy
        exact absurd rfl (hnd.2.2 i iy i (List.mem_flatMap.mpr ⟨x, ex, ix⟩))
      · exact uniq_flat hnd.2.1 ex ey ix iy
/-- two trees: no thing is a part twice, nor a top -/
theorem kids_two {T U : Tre} (nd : ((subs T ++ subs U).map idR).Nodup) : ((thO T).toList ++ (thO U).toList ++ (subs T ++ subs U).flatMap kidsL).Nodup := by
  have h := (kids_perm T).append (kids_perm U)
  rw [← List.map_append] at h
  have h2 : ((thO T).toList ++ (thO U).toList ++ (subs T ++ subs U).flatMap kidsL).Perm ((thO T).toList ++ (subs T).flatMap kidsL ++ ((thO U).toList ++ (subs U).flatMap kidsL)) := by
    rw [List.flatMap_append, List.append_assoc, List.append_assoc]
    refine List.Perm.append_left _ ?_
    rw [← List.append_assoc, ← List.append_assoc]
    exact List.Perm.append_right _ List.perm_append_comm
  exact (h2.trans h).nodup_iff.mpr nd
theorem kid_id {T : Tre} {x : Nd × Tre × Tre} {i : Nat} (hx : x ∈ subs T) (h : kid x i) : ∃ y ∈ subs T, y.1.i = i := by
  have h1 : i ∈ (thO T).toList ++ (subs T).flatMap kidsL := List.mem_append_right _ (List.mem_flatMap.mpr ⟨x, hx, kid_mem.mp h⟩)
  obtain ⟨y, hy, e⟩ := List.mem_map.mp ((kids_perm T).mem_iff.mp h1)
  exact ⟨y, hy, e⟩
theorem for_keysD {d : Addr} {o : Obj} {kvs : List (Key × V)} {g : TG} {tb : TS} {D : Ends} {σ : L2.St} {H : Hp} (Pv : Nat → L2.St → Hp → Prop) (h0 : Pv 0 σ H) (hl : ∀ i σ H, Pv i σ H → H d = some (.frz o (.dK kvs)))
    (hs : ∀ i k v σ H, kvs[i]? = some (k, v) → Pv i σ H → g (kV k) σ H fun σ2 H2 => tb { D with nx := Pv (i + 1), ct := Pv (i + 1), bk := D.nx } σ2 H2) (hd : ∀ σ H, Pv kvs.length σ H → D.nx σ H) :
    ∃ W : Nat → Nat → L2.St → Hp → Prop, (∃ m, W 0 m σ H) ∧ ∀ i m σ H, W i m σ H →
      ((Itk d o kvs).stop i H ∧ D.nx σ H) ∨ ((Itk d o kvs).go i H ∧ ∃ N : L2.St → Hp → Prop, (∀ σ' H', N σ' H' → ∃ m', m' < m ∧ W (i + 1) m' σ' H') ∧ ∀ x H', (Itk d o kvs).yld i H x H' → g x σ H' fun σ2 H2 => tb { D with nx := N, ct := N, bk := D.nx } σ2 H2) := by
  refine ⟨fun i m σ H => m = kvs.length - i ∧ i ≤ kvs.length ∧ Pv i σ H, ⟨kvs.length, by simp, Nat.zero_le _, h0⟩, ?_⟩
  rintro i m σ H ⟨rfl, hi, p⟩
  by_cases hlt : i < kvs.length
  · refine .inr ⟨⟨hl _ _ _ p, hlt⟩, Pv (i + 1), fun σ' H' p' => ⟨kvs.length - (i + 1), by omega, rfl, hlt, p'⟩, fun x H' y => ?_⟩
    obtain ⟨rfl, k, v, hk, rfl⟩ := y
    exact hs i k v σ _ hk p
  · have e : i = kvs.length := by omega
    subst e
    exact .inl ⟨⟨hl _ _ _ p, Nat.le_refl _⟩, hd _ _ p⟩
def sp_above : Sp := fun vs H Q _ => ∃ (N : Addr) (kvs : List (Key × V)) (R : List (Nd × Tre × Tre)) (i : Nat) (P : Option Nat), vs = [.ref N, .int (i : Int)] ∧ NS H N kvs R ∧ (∀ x ∈ R, kid x i → P = some x.1.i) ∧ (∀ j, P = some j → ∃ x ∈ R, kid x i) ∧ Q (hV P) H
theorem ok_above (T : Txt K mg) : FnOk P w K mg base CX0 1 T.a_l_above T.d_l_above ["_law_notes", "_law_thing"] sp_above := by
  refine T.F_l_above.ok sc_l_above (fun vs H Q E h => ?_) (fun cdv A outer s H vs Q E hr h => ?_)
  · obtain ⟨N, kvs, R, i, P, rfl, _⟩ := h
    rfl
  · obtain ⟨N, kvs, R, i, P0, rfl, ns, hp1, hp2, k⟩ := h
    refine ⟨_, (pss_cons (ps_lock (ps_for PassesOwn.never rfl (pi_keys (pv 0)) (pg_name (i := 2) sc_l_above.nd rfl (.inl rfl))
  (pss_one (ps_if (PW.pt (pw_or (pt_cmpR (op_eqD hr.units) (pe_ix ix_list (pe_dget (hu_of hr) (pv 0) (pv 2) (fun _ _ => rfl)) pe_int (fun _ _ => rfl)) (pv 1) (nomark _)) (pw_or1 (pt_cmpR (op_eqD hr.units) (pe_ix ix_list (pe_dget (hu_of hr) (pv 0) (pv 2) (fun _ _ => rfl)) pe_int (fun _ _ => rfl)) (pv 1) (nomark _)))))
  (pss_one (ps_ret (pv 2)))
  pss_nil))))
  (pss_one (ps_ret pe_non))), ?_⟩
    have self : ∀ od, upd (upd H N (.frz od (.dK kvs))) N (.dK kvs) = H := fun od => by
      funext b
      by_cases c : b = N
      · rw [c, upd_same, ns.d]
      · rw [upd_ne c, upd_ne c]
    refine ⟨N, .dK kvs, ns.d, trivial, fun od => ?_⟩
    refine ⟨_, rfl, N, od, rfl, .inl ⟨kvs, upd_same, for_keysD (fun m σ H' => ∃ v2 : Option V, σ = [some (.ref N), some (.int (i : Int)), v2] ∧ H' = upd H N (.frz od (.dK kvs)) ∧ ∀ j k v, j < m → kvs[j]? = some (k, v) → ∀ x ∈ R, k = keyI x.1.i → ¬ kid x i) ⟨none, rfl, rfl, fun j k v hj => absurd hj (Nat.not_lt_zero _)⟩ (fun m σ H' ⟨v2, _, e, _⟩ => by rw [e, upd_same]) ?_ ?_⟩⟩
    · rintro m kk v σ H' hk ⟨v2, rfl, rfl, hno⟩
      obtain ⟨x, hx, ek⟩ := ns.all _ (get_mem hk)
      have ek2 : kk = keyI x.1.i := ek
      subst ek2
      obtain ⟨a, hva, _, ha⟩ := ns.get hx
      have aN : a ≠ N := fun z => by
        have := ns.d
        rw [← z, ha] at this
        cases this
      have ha2 : (upd H N (.frz od (.dK kvs))) a = some (.lst (noteL x)) := by
        rw [upd_ne aN]
        exact ha
      have hg : DGet (upd H N (.frz od (.dK kvs))) N (.int (x.1.i : Int)) (some (.ref a)) := .inl ⟨kvs, keyI x.1.i, .inr ⟨od, upd_same⟩, rfl, hva.symm⟩
      have at1 : atI (noteL x) 1 = some (hV (thO x.2.1)) := by
        rw [← thV_thO]
        rfl
      have at2 : atI (noteL x) 2 = some (hV (thO x.2.2)) := by
        rw [← thV_thO]
        rfl
      refine ⟨_, rfl, _, rfl, N, .ref a, rfl, hg, a, _, 1, _, rfl, rfl, SqL.of ha2, at1, _, rfl, _, _, Dp.home (thO x.2.1), .int (i : Int), shaped_home _, rfl, ?_⟩
      rw [eqv_home]
      have fin : kid x i → Q (.int (x.1.i : Int)) (upd (upd H N (.frz od (.dK kvs))) N (.dK kvs)) := fun hk => by
        rw [self]
        have e := hp1 x hx hk
        rw [e] at k
        exact k
      refine ⟨_, rfl, t_2 (fun c => ?_) (fun c => ?_)⟩
      · exact iteT ⟨_, rfl, upd_same, fin (.inl c)⟩
      refine ⟨_, rfl, _, rfl, N, .ref a, rfl, hg, a, _, 2, _, rfl, rfl, SqL.of ha2, at2, _, rfl, _, _, Dp.home (thO x.2.2), .int (i : Int), shaped_home _, rfl, ?_⟩
      rw [eqv_home]
      refine ⟨_, rfl, t_2 (fun c2 => ?_) (fun c2 => ?_)⟩
      · exact ⟨_, rfl, upd_same, fin (.inr c2)⟩
      · refine ⟨_, rfl, rfl, fun j k' v' hj hjk y hy ey => ?_⟩
        by_cases cj : j < m
        · exact hno j k' v' cj hjk y hy ey
        · have ej : j = m := by omega
          rw [ej, hk] at hjk
          cases hjk
          have exy : x.1.i = y.1.i := keyI_inj ey
          obtain ⟨b, hvb, _, hb⟩ := ns.get hy
          have exy2 : x = y := by
            have nd := ns.nd
            exact uniq_flat (f := fun z => [idR z]) (i := x.1.i) (by rw [flat_one]; exact nd) hx hy (List.mem_singleton.mpr rfl) (List.mem_singleton.mpr exy)
          rw [← exy2]
          exact fun z => z.elim c c2
    · rintro σ H' ⟨v2, rfl, rfl, hno⟩
      refine ⟨upd_same, ?_⟩
      rw [self]
      have e : P0 = none := by
        cases e : P0 with
        | none => rfl
        | some j =>
          obtain ⟨x, hx, hkx⟩ := hp2 j e
          obtain ⟨a, hva, _, _⟩ := ns.get hx
          obtain ⟨q, hq, eq⟩ := valV_mem hva
          obtain ⟨m, hm⟩ := List.mem_iff_getElem?.mp hq
          exact absurd hkx (hno m q.1 q.2 (get_len hm) hm x hx eq)
      rw [e] at k
      exact k
end
/-! ### a thing sinks, in the notes -/
def sig (x : Nd × Tre × Tre) : Nat × List V := (x.1.i, noteL x)
theorem NS.like {H : Hp} {N : Addr} {kvs : List (Key × V)} {R R' : List (Nd × Tre × Tre)} (h : NS H N kvs R) (e : R.map sig = R'.map sig) : NS H N kvs R' := by
  have back : ∀ x' ∈ R', ∃ x ∈ R, sig x = sig x' := fun x' hx => by
    have : sig x' ∈ R.map sig := by
      rw [e]
      exact List.mem_map_of_mem hx
    obtain ⟨x, h1, h2⟩ := List.mem_map.mp this
    exact ⟨x, h1, h2⟩
  have forth : ∀ x ∈ R, ∃ x' ∈ R', sig x = sig x' := fun x hx => by
    have : sig x ∈ R'.map sig := by
      rw [← e]
      exact List.mem_map_of_mem hx
    obtain ⟨x', h1, h2⟩ := List.mem_map.mp this
    exact ⟨x', h1, h2.symm⟩
  refine ⟨h.d, ?_, fun x' hx => ?_, fun q hq => ?_, h.inj, ?_, ?_⟩
  · have := congrArg List.length e
    rw [List.length_map, List.length_map] at this
    rw [← this]
    exact h.len
  · obtain ⟨x, h1, h2⟩ := back x' hx
    obtain ⟨a, h3, h4⟩ := h.at_ x h1
    have e1 : x.1.i = x'.1.i := congrArg (·.1) h2
    have e2 : noteL x = noteL x' := congrArg (·.2) h2
    exact ⟨a, by rw [← e1]; exact h3, by rw [← e2]; exact h4⟩
  · obtain ⟨x, h1, h2⟩ := h.all q hq
    obtain ⟨x', h3, h4⟩ := forth x h1
    have e1 : x.1.i = x'.1.i := congrArg (·.1) h4
    exact ⟨x', h3, by rw [h2, e1]⟩
  · have e2 : ∀ l : List (Nd × Tre × Tre), l.map idR = (l.map sig).map (·.1) := fun l => by
      rw [List.map_map]
      rfl
    rw [e2, ← e, ← e2]
    exact h.nd
  · have := congrArg List.length e
    rw [List.length_map, List.length_map] at this
    rw [← this]
    exact h.sz
def row1 (f : Up) (t : Tre) : Nd × Tre × Tre := if f.right = true then (f.n, f.sib, t) else (f.n, t, f.sib)
def upR : List Up → Tre → List (Nd × Tre × Tre)
  | [], _ => []
  | f :: fs, t => row1 f t :: (subs f.sib ++ upR fs (put1 f t))
theorem row1_i (f : Up) (t : Tre) : (row1 f t).1 = f.n := by
  unfold row1
  split <;> rfl
theorem subs_put1 (f : Up) (t : Tre) : (subs (put1 f t)).Perm (subs t ++ row1 f t :: subs f.sib) := by
  unfold put1 row1
  split
  · rw [subs_nd]
    exact (List.Perm.cons _ List.perm_append_comm).trans List.perm_middle.symm
  · rw [subs_nd]
    exact List.perm_middle.symm
theorem subs_plug : ∀ (fs : List Up) (t : Tre), (subs (plug t fs)).Perm (subs t ++ upR fs t)
  | [], t => by
    show (subs t).Perm (subs t ++ [])
    rw [List.append_nil]
  | f :: fs, t => by
    show (subs (plug (put1 f t) fs)).Perm (subs t ++ row1 f t :: (subs f.sib ++ upR fs (put1 f t)))
    refine (subs_plug fs (put1 f t)).trans ?_
    refine ((subs_put1 f t).append_right _).trans ?_
    rw [List.append_assoc]
    exact List.Perm.refl _
theorem thV_put1 (f : Up) (t : Tre) : thV (put1 f t) = .int (f.n.i : Int) := by
  unfold put1
  split <;> rfl
theorem thV_mk1 (f : Up) (t : Tre) : thV (mk1 f t) = .int (f.n.i : Int) := by
  unfold mk1
  split <;> exact thV_mk _ _ _
theorem row1_sig (f : Up) {t t' : Tre} (h : thV t = thV t') : sig (row1 f t) = sig (row1 f t') := by
  unfold row1 sig noteL
  split <;> simp [h]
theorem upR_sig : ∀ (fs : List Up) {t t' : Tre}, thV t = thV t' → (upR fs t).map sig = (upR fs t').map sig
  | [], _, _, _ => rfl
  | f :: fs, t, t', h => by
    show sig (row1 f t) :: ((subs f.sib ++ upR fs (put1 f t)).map sig) = sig (row1 f t') :: ((subs f.sib ++ upR fs (put1 f t')).map sig)
    rw [row1_sig f h, List.map_append, List.map_append, upR_sig fs (t := put1 f t) (t' := put1 f t') (by rw [thV_put1, thV_put1])]
theorem thV_plug : ∀ (fs : List Up) {t t' : Tre}, thV t = thV t' → thV (plug t fs) = thV (plug t' fs)
  | [], _, _, h => h
  | f :: fs, t, t', _ => by
    show thV (plug (put1 f t) fs) = thV (plug (put1 f t') fs)
    exact thV_plug fs (by rw [thV_put1, thV_put1])
theorem NS.plug {H : Hp} {N : Addr} {kvs : List (Key × V)} {Q : List (Nd × Tre × Tre)} {fs : List Up} {t t0 : Tre} (h : NS H N kvs (subs t ++ (upR fs t0 ++ Q))) (e : thV t0 = thV t) : NS H N kvs (subs (plug t fs) ++ Q) := by
  have h2 : NS H N kvs (subs t ++ (upR fs t ++ Q)) := h.like (by rw [List.map_append, List.map_append, List.map_append, List.map_append, upR_sig fs e])
  refine h2.perm ?_
  rw [← List.append_assoc]
  exact (subs_plug fs t).symm.append_right _
theorem step_perm (f : Up) (t : Tre) (fs : List Up) (Q : List (Nd × Tre × Tre)) : ∃ l' r', row1 f t = (f.n, l', r') ∧ mk f.n l' r' = mk1 f t ∧ (subs (plug t (f :: fs)) ++ Q).Perm ((f.n, l', r') :: (subs l' ++ subs r' ++ (upR fs (put1 f t) ++ Q))) := by
  have h := (subs_plug (f :: fs) t).append_right Q
  have h2 : (subs t ++ upR (f :: fs) t ++ Q).Perm (row1 f t :: (subs t ++ subs f.sib ++ (upR fs (put1 f t) ++ Q))) := by
    show (subs t ++ row1 f t :: (subs f.sib ++ upR fs (put1 f t)) ++ Q).Perm _
    rw [show subs t ++ row1 f t :: (subs f.sib ++ upR fs (put1 f t)) ++ Q = subs t ++ row1 f t :: (subs f.sib ++ (upR fs (put1 f t) ++ Q)) by simp]
    refine List.perm_middle.trans (List.Perm.cons _ ?_)
    rw [List.append_assoc]
  by_cases c : f.right = true
  · have e : row1 f t = (f.n, f.sib, t) := if_pos c
    refine ⟨f.sib, t, e, by unfold mk1; rw [if_pos c], h.trans (h2.trans ?_)⟩
    rw [e]
    exact List.Perm.cons _ (List.perm_append_comm.append_right _)
  · have e : row1 f t = (f.n, t, f.sib) := if_neg c
    refine ⟨t, f.sib, e, by unfold mk1; rw [if_neg c], h.trans (h2.trans ?_)⟩
    rw [e]
theorem kid_row1 {f : Up} {t : Tre} {i : Nat} (h : thO t = some i) : kid (row1 f t) i := by
  unfold row1 kid
  split
  · exact .inr h
  · exact .inl h
theorem parent_ok {t : Tre} {i : Nat} (ht : thO t = some i) {fs : List Up} {U : Tre} (hnd : ((subs (plug t fs) ++ subs U).map idR).Nodup) :
    (∀ x ∈ subs (plug t fs) ++ subs U, kid x i → fs.head?.map (fun f => f.n.i) = some x.1.i) ∧ (∀ j, fs.head?.map (fun f => f.n.i) = some j → ∃ x ∈ subs (plug t fs), kid x i) := by
  have k2 := kids_two hnd
  rw [List.nodup_append] at k2
  cases fs with
  | nil =>
    refine ⟨fun x hx hk => ?_, fun j h => by cases h⟩
    refine absurd rfl (k2.2.2 i (List.mem_append_left _ ?_) i (List.mem_flatMap.mpr ⟨x, hx, kid_mem.mp hk⟩))
    show i ∈ (thO t).toList
    rw [ht]
    exact List.mem_singleton.mpr rfl
  | cons f fs =>
    have hy : row1 f t ∈ subs (plug t (f :: fs)) := (subs_plug (f :: fs) t).mem_iff.mpr (List.mem_append_right _ List.mem_cons_self)
    refine ⟨fun x hx hk => ?_, fun j _ => ⟨_, hy, kid_row1 ht⟩⟩
    have e := uniq_flat k2.2.1 hx (List.mem_append_left _ hy) (kid_mem.mp hk) (kid_mem.mp (kid_row1 ht))
    rw [e, row1_i]
    rfl
theorem mk1_nd (f : Up) (t : Tre) : ∃ n2 l2 r2, mk1 f t = .nd n2 l2 r2 ∧ n2.i = f.n.i := by
  unfold mk1 mk
  split <;> split <;> exact ⟨_, _, _, rfl, rfl⟩
theorem up_mem : ∀ {fs : List Up} {f : Up} {t : Tre}, f ∈ fs → ∃ x ∈ upR fs t, x.1.i = f.n.i
  | g :: fs, f, t, h => by
    rcases List.mem_cons.mp h with e | e
    · exact ⟨row1 g t, List.mem_cons_self, by rw [row1_i, e]⟩
    · obtain ⟨x, h1, h2⟩ := up_mem (t := put1 g t) e
      exact ⟨x, List.mem_cons_of_mem _ (List.mem_append_right _ h1), h2⟩
section
variable {P : Program} {w : World} {K : PySem.W.Frag} {mg : Str → Option Value} {base : Heap}
def sp_sunk11 : Sp := fun vs H Q _ => ∃ (N : Addr) (kvs : List (Key × V)) (R : List (Nd × Tre × Tre)) (n : Nd) (l r : Tre) (fs : List Up) (w : Int), vs = [.ref N, thV (plug (.nd n l r) fs), .int (n.i : Int), .int w] ∧ NS H N kvs (subs (plug (.nd n l r) fs) ++ R) ∧
  (∀ x ∈ R, ∀ i, kid x i → i ∉ (subs (plug (.nd n l r) fs)).map idR) ∧
  ∀ H' q, NS H' N kvs (subs (sunk n l r w fs).1 ++ R) → FrN kvs H H' → H q = none → H' q = some (.tup [thV (sunk n l r w fs).1, .int ((sunk n l r w fs).2 : Int)]) → Q (.ref q) H'
theorem ok_sunk11 (T : Txt K mg) : FnOk P w K mg base CX0 4 T.a_l_sunk T.d_l_sunk ["_law_notes", "_law_top_here", "_law_thing", "_law_weight_here"] sp_sunk11 := by
  have G_l_sided : FnOk P w K mg base CX0 3 _ _ _ _ := (ok_sided T).mono (by decide)
  have G_l_above : FnOk P w K mg base CX0 3 _ _ _ _ := (ok_above T).mono (by decide)
  have G_l_joined : FnOk P w K mg base CX0 3 _ _ _ _ := ok_joined11 T
  refine T.F_l_sunk.ok sc_l_sunk (fun vs H Q E h => ?_) (fun cdv A outer s H vs Q E hr h => ?_)
  · obtain ⟨N, kvs, R, n, l, r, fs, w, rfl, _⟩ := h
    rfl
  · obtain ⟨N, kvs, R, n, l, r, fs, w, rfl, ns, hR, k⟩ := h
    refine ⟨_, (pss_cons (ps_asg (pv 3) (pg_sub (pe_dget (hu_of hr) (pv 0) (pv 2) (fun _ _ => rfl)) pe_int set_list))
  (pss_cons (ps_set (i := 4) sc_l_sunk.nd rfl (.inl rfl) (pe_call G_l_above hr rfl T.g_l_above T.F_l_above.kp T.b_l_above .nil pass0 (pa_cons (pv 0) (pa_cons (pv 2) pa_nil))))
  (pss_cons (ps_if (PW.pt (pw_or (pt_cmpR op_isN (pv 4) pe_non (nomark _)) (pw_or1 (pt_cmpR (op_ltT hr.units0) (pe_tup (pa_cons (pe_ix ix_list (pe_dget (hu_of hr) (pv 0) (pv 4) (fun _ _ => rfl)) pe_int (fun _ _ => rfl)) (pa_cons (pv 4) pa_nil))) (pe_tup (pa_cons (pv 3) (pa_cons (pv 2) pa_nil))) (nomark _)))))
  (pss_one (ps_ret (pe_tup (pa_cons (pv 1) (pa_cons pe_int pa_nil)))))
  pss_nil)
  (pss_cons (ps_set (i := 5) sc_l_sunk.nd rfl (.inl rfl) pe_int)
  (C8.pss_cut (ps_if (pt_cmpR (op_eqD hr.units) (pe_ix ix_list (pe_dget (hu_of hr) (pv 0) (pv 4) (fun _ _ => rfl)) pe_int (fun _ _ => rfl)) (pv 2) (nomark _))
  (pss_one (ps_set (i := 5) sc_l_sunk.nd rfl (.inl rfl) pe_int))
  pss_nil)
  (pss_cons (ps_asg pe_non (pg_sub (pe_dget (hu_of hr) (pv 0) (pv 4) (fun _ _ => rfl)) (pv 5) set_list))
  (pss_cons (ps_set (i := 6) sc_l_sunk.nd rfl (.inl rfl) pe_int)
  (pss_cons (ps_set (i := 7) sc_l_sunk.nd rfl (.inl rfl) pe_bl)
  (C8.pss_cut (ps_while PassesOwn.never (PW.pt (pw_and (pt_cmpR op_notN (pv 4) pe_non (nomark _)) (pw_and1 (pt_val (pv 7)))))
  (pss_cons (ps_set (i := 8) sc_l_sunk.nd rfl (.inl rfl) (pe_ix ix_list (pe_dget (hu_of hr) (pv 0) (pv 4) (fun _ _ => rfl)) pe_int (fun _ _ => rfl)))
  (pss_cons (ps_expr (pe_call G_l_sided hr rfl T.g_l_sided T.F_l_sided.kp T.b_l_sided .nil pass0 (pa_cons (pv 0) (pa_cons (pv 4) pa_nil))))
  (pss_cons (ps_set (i := 6) sc_l_sunk.nd rfl (.inl rfl) (pe_op op_add (pv 6) pe_int))
  (pss_cons (ps_set (i := 7) sc_l_sunk.nd rfl (.inl rfl) (pe_cmpR op_ne (pe_ix ix_list (pe_dget (hu_of hr) (pv 0) (pv 4) (fun _ _ => rfl)) pe_int (fun _ _ => rfl)) (pv 8) (nomark _)))
  (pss_one (ps_set (i := 4) sc_l_sunk.nd rfl (.inl rfl) (pe_call G_l_above hr rfl T.g_l_above T.F_l_above.kp T.b_l_above .nil pass0 (pa_cons (pv 0) (pa_cons (pv 4) pa_nil))))))))))
  (pss_cons (ps_set (i := 9) sc_l_sunk.nd rfl (.inl rfl) (pe_call G_l_joined hr rfl T.g_l_joined T.F_l_joined.kp T.b_l_joined .nil pass0 (pa_cons (pv 0) (pa_cons (pv 1) (pa_cons (pv 2) pa_nil)))))
  (pss_one (ps_ret (pe_tup (pa_cons (pe_ix ix_tup (pv 9) pe_int (fun _ _ => rfl)) (pa_cons (pe_op op_add (pv 6) (pe_ix ix_tup (pv 9) pe_int (fun _ _ => rfl))) pa_nil))))))))))))))), ?_⟩
    obtain ⟨U, hU⟩ : ∃ U : Tre, U = .nd { n with w := w } l r := ⟨_, rfl⟩
    have hUV : thV U = .int (n.i : Int) := by rw [hU]; rfl
    have hUO : thO U = some n.i := by rw [hU]; rfl
    have hVV : thV (.nd n l r) = thV U := by rw [hU]; rfl
    have hids : ((subs (plug U fs)).map idR) = (subs (plug U fs)).map idR := rfl
    -- the weight
    have nsp : NS H N kvs ((n, l, r) :: (subs l ++ subs r ++ (upR fs (.nd n l r) ++ R))) := by
      refine ns.perm (((subs_plug fs (.nd n l r)).append_right R).trans ?_)
      rw [subs_nd, List.append_assoc]
      exact List.Perm.refl _
    obtain ⟨a, hva, hga, ha⟩ := nsp.get List.mem_cons_self
    refine ⟨_, rfl, _, rfl, _, rfl, N, .ref a, rfl, hga, a, _, _, 0, rfl, rfl, ha, Evl.ixN_nat (by show 0 < 4; decide), ?_⟩
    have e0 : (noteL (n, l, r)).set 0 (.int w) = noteL ({ n with w := w }, l, r) := rfl
    rw [e0]
    have ns1 : NS (upd H a (.lst (noteL ({ n with w := w }, l, r)))) N kvs (subs (plug U fs) ++ R) := by
      have h1 := nsp.write (x' := ({ n with w := w }, l, r)) rfl hva
      have h2 : NS (upd H a (.lst (noteL ({ n with w := w }, l, r)))) N kvs (subs U ++ (upR fs (.nd n l r) ++ R)) := by
        rw [hU]
        exact h1
      exact h2.plug hVV
    have f1 : FrN kvs H (upd H a (.lst (noteL ({ n with w := w }, l, r)))) := FrN.wr hva
    generalize upd H a (.lst (noteL ({ n with w := w }, l, r))) = H1 at ns1 f1 ⊢
    have top : thV (plug (.nd n l r) fs) = thV (plug U fs) := thV_plug fs hVV
    rw [top]
    -- the numbers are the same
    have ids : ∀ {t : Tre}, (subs (plug t fs)).map idR = (subs (plug t fs)).map idR := rfl
    have pids : ((subs (plug (.nd n l r) fs)).map idR).Perm ((subs (plug U fs)).map idR) := by
      have g1 := (subs_plug fs (.nd n l r)).map idR
      have g2 := (subs_plug fs U).map idR
      rw [List.map_append] at g1 g2
      have g3 : (upR fs (.nd n l r)).map idR = (upR fs U).map idR := by
        have e2 : ∀ l : List (Nd × Tre × Tre), l.map idR = (l.map sig).map (·.1) := fun l => by
          rw [List.map_map]
          rfl
        rw [e2, e2, upR_sig fs hVV]
      have g4 : (subs (.nd n l r)).map idR = (subs U).map idR := by rw [hU]; rfl
      rw [g3, g4] at g1
      exact g1.trans g2.symm
    have hR2 : ∀ x ∈ R, ∀ i, kid x i → i ∉ (subs (plug U fs)).map idR := fun x hx i hk hm => hR x hx i hk (pids.mem_iff.mpr hm)
    have nin : n.i ∈ (subs (plug U fs)).map idR := by
      have : ({ n with w := w }, l, r) ∈ subs (plug U fs) := (subs_plug fs U).mem_iff.mpr (List.mem_append_left _ (by rw [hU]; exact List.mem_cons_self))
      exact List.mem_map.mpr ⟨_, this, rfl⟩
    -- what it is a part of
    have par : (∀ x ∈ subs (plug U fs) ++ R, kid x n.i → fs.head?.map (fun f => f.n.i) = some x.1.i) ∧ (∀ j, fs.head?.map (fun f => f.n.i) = some j → ∃ x ∈ subs (plug U fs) ++ R, kid x n.i) := by
      have nd1 := ns1.nd
      rw [List.map_append, List.nodup_append] at nd1
      have p1 := parent_ok (U := .nil) hUO (fs := fs) (by rw [show subs .nil = [] from rfl, List.append_nil]; exact nd1.1)
      refine ⟨fun x hx hk => ?_, fun j hj => ?_⟩
      · rcases List.mem_append.mp hx with q | q
        · exact p1.1 x (List.mem_append_left _ q) hk
        · exact absurd nin (hR2 x q _ hk)
      · obtain ⟨x, h1, h2⟩ := p1.2 j hj
        exact ⟨x, List.mem_append_left _ h1, h2⟩
    refine ⟨_, rfl, _, rfl, N, kvs, _, n.i, _, rfl, ns1, par.1, par.2, ?_⟩
    cases fs with
    | nil =>
      refine ⟨_, rfl, rfl, _, rfl, iteT (iteT ?_)⟩
      refine ⟨_, rfl, (by show 2 ≤ sizeLine; decide), fun q hq => ?_⟩
      have sq := same_new (o := .tup [thV (plug U []), .int 0]) hq
      have es : (sunk n l r w []) = (U, 0) := by rw [hU]; rfl
      refine k _ q (by rw [es]; exact ns1.same sq) (f1.trans (FrN.same sq)) (ns1.free f1 hq) ?_
      rw [es]
      exact upd_same
    | cons f fs =>
    rw [show hV (Option.map (fun f : Up => f.n.i) (f :: fs).head?) = V.int (f.n.i : Int) from rfl]
    have rowIn : row1 f U ∈ subs (plug U (f :: fs)) ++ R := List.mem_append_left _ ((subs_plug (f :: fs) U).mem_iff.mpr (List.mem_append_right _ List.mem_cons_self))
    obtain ⟨b, hvb, hgb, hb⟩ := ns1.get rowIn
    rw [row1_i] at hvb hgb
    refine ⟨_, rfl, rfl, _, rfl, iteF ?_⟩
    have hw0 : atI (noteL (row1 f U)) 0 = some (.int f.n.w) := by
      unfold noteL
      rw [row1_i]
      rfl
    refine ⟨_, rfl, _, rfl, N, .ref b, rfl, hgb, b, _, 0, .int f.n.w, rfl, rfl, SqL.of hb, hw0, _, rfl, (by show 2 ≤ sizeLine; decide), fun q1 hq1 => ?_⟩
    have sq1 : Same H1 (upd H1 q1 (.tup [.int f.n.w, .int (f.n.i : Int)])) := same_new hq1
    refine ⟨_, rfl, _, rfl, (by show 2 ≤ sizeLine; decide), fun q2 hq2 => ?_⟩
    have sq2 := same_new (o := .tup [.int w, .int (n.i : Int)]) hq2
    refine ⟨q1, q2, [f.n.w, (f.n.i : Int)], [({ n with w := w } : Nd).w, ((({ n with w := w } : Nd).i : Nat) : Int)], rfl, rfl, SqT.of (sq2 _ _ upd_same), SqT.of upd_same, ?_⟩
    rw [lex_lt]
    have s12 : Same H1 (upd (upd H1 q1 (.tup [.int f.n.w, .int (f.n.i : Int)])) q2 (.tup [.int w, .int (n.i : Int)])) := fun b o e => sq2 _ _ (sq1 _ _ e)
    generalize upd (upd H1 q1 (.tup [.int f.n.w, .int (f.n.i : Int)])) q2 (.tup [.int w, .int (n.i : Int)]) = H2 at s12 ⊢
    have ns2 := ns1.same s12
    have f2 : FrN kvs H H2 := f1.trans (FrN.same s12)
    have hb2 := s12 _ _ hb
    have hne : f.n.i ≠ n.i := fun e => by
      have nd1 := ns1.nd
      rw [List.map_append, List.nodup_append] at nd1
      have nd2 := ((subs_plug (f :: fs) U).map idR).nodup_iff.mp nd1.1
      rw [List.map_append, List.nodup_append] at nd2
      refine absurd e.symm (nd2.2.2 n.i ?_ f.n.i ?_)
      · rw [hU]
        exact List.mem_cons_self
      · exact List.mem_map.mpr ⟨row1 f U, List.mem_cons_self, congrArg Nd.i (row1_i f U)⟩
    refine ⟨_, rfl, t_2 (fun c => ?_) (fun c => ?_)⟩
    · -- it stays where it is
      have c2 : ¬ lt { n with w := w } f.n := fun z => lt_irrefl (lt_trans c z)
      refine ⟨_, rfl, (by show 2 ≤ sizeLine; decide), fun q hq => ?_⟩
      have es : sunk n l r w (f :: fs) = (plug U (f :: fs), 0) := by rw [sunk_no c2, hU]
      have sq := same_new (o := .tup [thV (plug U (f :: fs)), .int 0]) hq
      refine k _ q (by rw [es]; exact ns2.same sq) (f2.trans (FrN.same sq)) (ns2.free f2 hq) ?_
      rw [es]
      exact upd_same
    have c2 : lt { n with w := w } f.n := lt_total (fun e => hne e) c
    -- its place is empty
    have hgb2 : DGet H2 N (.int (f.n.i : Int)) (some (.ref b)) := dget_of ns2.d hvb
    refine ⟨fun (σ : List (Option V)) (H' : Hp) => ∃ pl : Nat, pl < 4 ∧ σ = [some (V.ref N), some (thV (plug U (f :: fs))), some (V.int (n.i : Int)), some (V.int w), some (V.int (f.n.i : Int)), some (V.int (pl : Int)), none, none, none, none] ∧ H' = H2 ∧ (noteL (row1 f U)).set pl .non = noteL (row1 f .nil), ?_, ?_⟩
    · have at2 : atI (noteL (row1 f U)) 2 = some (hV (thO (row1 f U).2.2)) := by
        rw [← thV_thO]
        rfl
      refine ⟨_, rfl, _, rfl, N, .ref b, rfl, hgb2, b, _, 2, _, rfl, rfl, SqL.of hb2, at2, _, rfl, _, _, Dp.home (thO (row1 f U).2.2), .int (n.i : Int), shaped_home _, rfl, ?_⟩
      rw [eqv_home]
      refine ⟨_, rfl, t_2 (fun c3 => ?_) (fun c3 => ?_)⟩
      · refine ⟨2, by decide, rfl, rfl, ?_⟩
        by_cases cr : f.right = true
        · unfold row1
          rw [if_pos cr, if_pos cr]
          rfl
        · exfalso
          unfold row1 at c3
          rw [if_neg cr] at c3
          have c4 : thO f.sib = some n.i := c3
          have nd1 := ns1.nd
          rw [List.map_append, List.nodup_append] at nd1
          have nd2 := ((subs_plug (f :: fs) U).map idR).nodup_iff.mp nd1.1
          rw [List.map_append, List.nodup_append] at nd2
          refine absurd rfl (nd2.2.2 n.i ?_ n.i ?_)
          · rw [hU]
            exact List.mem_cons_self
          · cases hs : f.sib with
            | nil => rw [hs] at c4; cases c4
            | nd m x y =>
              rw [hs] at c4
              refine List.mem_map.mpr ⟨(m, x, y), List.mem_cons_of_mem _ (List.mem_append_left _ (by rw [hs]; exact List.mem_cons_self)), Option.some.inj c4⟩
      · refine ⟨1, by decide, rfl, rfl, ?_⟩
        by_cases cr : f.right = true
        · exfalso
          unfold row1 at c3
          rw [if_pos cr] at c3
          exact c3 hUO
        · unfold row1
          rw [if_neg cr, if_neg cr]
          rfl
    rintro σ H' ⟨pl, hpl, rfl, rfl, hset⟩
    refine ⟨_, rfl, _, rfl, N, .ref b, rfl, hgb2, _, rfl, b, _, _, pl, rfl, rfl, hb2, Evl.ixN_nat hpl, ?_⟩
    rw [hset]
    have ns4 : NS (upd H' b (.lst (noteL (row1 f .nil)))) N kvs (subs (plug .nil (f :: fs)) ++ (subs U ++ R)) := by
      have h1 : NS H' N kvs (row1 f U :: (subs f.sib ++ upR fs (put1 f U) ++ (subs U ++ R))) := by
        refine ns2.perm (((subs_plug (f :: fs) U).append_right R).trans ?_)
        show (subs U ++ row1 f U :: (subs f.sib ++ upR fs (put1 f U)) ++ R).Perm _
        rw [show subs U ++ row1 f U :: (subs f.sib ++ upR fs (put1 f U)) ++ R = subs U ++ row1 f U :: ((subs f.sib ++ upR fs (put1 f U)) ++ R) by simp]
        refine List.perm_middle.trans (List.Perm.cons _ ?_)
        rw [← List.append_assoc, ← List.append_assoc (subs f.sib ++ upR fs (put1 f U))]
        exact List.perm_append_comm.append_right _
      have h2 := h1.write (x' := row1 f .nil) (by rw [row1_i, row1_i]) (a := b) (by rw [row1_i]; exact hvb)
      have h3 : NS (upd H' b (.lst (noteL (row1 f .nil)))) N kvs (row1 f .nil :: (subs f.sib ++ upR fs (put1 f .nil) ++ (subs U ++ R))) := h2.like (by
        simp only [List.map_cons, List.map_append]
        rw [upR_sig fs (t := put1 f U) (t' := put1 f .nil) (by rw [thV_put1, thV_put1])])
      refine h3.perm ?_
      have h4 := (subs_plug (f :: fs) .nil).symm.append_right (subs U ++ R)
      exact h4
    have f4 : FrN kvs H (upd H' b (.lst (noteL (row1 f .nil)))) := f2.trans (FrN.wr hvb)
    generalize upd H' b (.lst (noteL (row1 f .nil))) = H4 at ns4 f4 ⊢
    refine ⟨fun (σ : List (Option V)) (H' : Hp) => ∃ (C : Tre) (lk : Nat) (v4 v7 v8 : Option V), σ = [some (V.ref N), some (thV (plug U (f :: fs))), some (V.int (n.i : Int)), some (V.int w), v4, some (V.int (pl : Int)), some (V.int (lk : Int)), v7, v8, none] ∧ NS H' N kvs (subs C ++ (subs U ++ R)) ∧ FrN kvs H H' ∧ climb .nil (f :: fs) = (C, lk) ∧ thV C = thV (plug U (f :: fs)), ?_, ?_⟩
    · refine ⟨fun (m : Nat) (σ : L2.St) (H' : Hp) => ∃ (t : Tre) (rest : List Up) (lk : Nat) (go : Bool) (v8 : Option V), m = rest.length ∧ σ = [some (V.ref N), some (thV (plug U (f :: fs))), some (V.int (n.i : Int)), some (V.int w), some (hV (rest.head?.map fun g : Up => g.n.i)), some (V.int (pl : Int)), some (V.int (lk : Int)), some (V.bl go), v8, none] ∧
        NS H' N kvs (subs (plug t rest) ++ (subs U ++ R)) ∧ FrN kvs H H' ∧ (go = true → climb .nil (f :: fs) = ((climb t rest).1, lk + (climb t rest).2)) ∧ (go = false → climb .nil (f :: fs) = (plug t rest, lk)) ∧ thV (plug t rest) = thV (plug U (f :: fs)) ∧ ∀ g ∈ rest, g ∈ f :: fs,
        ⟨_, .nil, f :: fs, 0, true, none, rfl, rfl, ns4, f4, fun _ => by rw [Nat.zero_add], fun z => (by cases z), (show thV (plug (put1 f .nil) fs) = thV (plug (put1 f U) fs) from thV_plug fs (by rw [thV_put1, thV_put1])), fun g hg => hg⟩, ?_⟩
      rintro M σ H5 ⟨t, rest, lk, go, v8, rfl, rfl, ns5, f5, hgo, hstop, htop, hsub⟩
      refine ⟨_, rfl, rfl, _, rfl, ?_⟩
      cases rest with
      | nil =>
        refine iteF (iteF ⟨t, lk, _, _, _, rfl, ns5, f5, ?_, htop⟩)
        cases go with
        | true => exact hgo rfl
        | false => exact hstop rfl
      | cons g rest =>
      refine iteT ⟨_, rfl, go, rfl, ?_⟩
      cases go with
      | false => exact iteF ⟨plug t (g :: rest), lk, _, _, _, rfl, ns5, f5, hstop rfl, htop⟩
      | true =>
      refine iteT ⟨_, fun _ _ h => h, ?_⟩
      have gin : g ∈ f :: fs := hsub g List.mem_cons_self
      have rowG : row1 g t ∈ subs (plug t (g :: rest)) ++ (subs U ++ R) := List.mem_append_left _ ((subs_plug (g :: rest) t).mem_iff.mpr (List.mem_append_right _ List.mem_cons_self))
      obtain ⟨c, hvc, hgc, hc⟩ := ns5.get rowG
      rw [row1_i] at hvc hgc
      have at3 : atI (noteL (row1 g t)) 3 = some (.int (g.n.k : Int)) := by
        unfold noteL
        rw [row1_i]
        rfl
      refine ⟨_, rfl, _, rfl, N, .ref c, rfl, hgc, c, _, 3, _, rfl, rfl, SqL.of hc, at3, ?_⟩
      obtain ⟨l', r', er, em, pm⟩ := step_perm g t rest (subs U ++ R)
      refine ⟨_, rfl, _, rfl, N, kvs, upR rest (put1 g t) ++ (subs U ++ R), g.n, l', r', rfl, ns5.perm pm, fun H6 ns6 f6 => ?_⟩
      rw [em] at ns6
      obtain ⟨n2, l2, r2, e2, e2i⟩ := mk1_nd g t
      obtain ⟨c5, hvc5, hgc5, hc5⟩ := ns6.get (x := (n2, l2, r2)) (List.mem_append_left _ (by rw [e2]; exact List.mem_cons_self))
      have hgc6 : DGet H6 N (.int (g.n.i : Int)) (some (.ref c5)) := by
        rw [← e2i]
        exact hgc5
      have ns7 : NS H6 N kvs (subs (plug (mk1 g t) rest) ++ (subs U ++ R)) := ns6.plug (by rw [thV_put1, thV_mk1])
      refine ⟨_, rfl, _, _, rfl, rfl, ?_⟩
      refine ⟨_, rfl, _, rfl, N, .ref c5, rfl, hgc6, c5, _, 3, .int (n2.k : Int), rfl, rfl, SqL.of hc5, rfl, _, rfl, rfl, ?_⟩
      have hO : thO (mk1 g t) = some g.n.i := by
        rw [e2, ← e2i]
        rfl
      have par2 : (∀ x ∈ subs (plug (mk1 g t) rest) ++ (subs U ++ R), kid x g.n.i → rest.head?.map (fun f => f.n.i) = some x.1.i) ∧ (∀ j, rest.head?.map (fun f => f.n.i) = some j → ∃ x ∈ subs (plug (mk1 g t) rest) ++ (subs U ++ R), kid x g.n.i) := by
        have nd1 := ns7.nd
        rw [← List.append_assoc, List.map_append, List.nodup_append] at nd1
        have p1 := parent_ok hO (fs := rest) (U := U) nd1.1
        refine ⟨fun x hx hk => ?_, fun j hj => ?_⟩
        · rw [← List.append_assoc] at hx
          rcases List.mem_append.mp hx with q | q
          · exact p1.1 x q hk
          · refine absurd ?_ (hR2 x q _ hk)
            obtain ⟨y, hy, ey⟩ := up_mem (t := U) gin
            exact List.mem_map.mpr ⟨y, (subs_plug (f :: fs) U).mem_iff.mpr (List.mem_append_right _ hy), ey⟩
        · obtain ⟨x, h1, h2⟩ := p1.2 j hj
          exact ⟨x, List.mem_append_left _ h1, h2⟩
      refine ⟨_, rfl, _, rfl, N, kvs, _, g.n.i, _, rfl, ns7, par2.1, par2.2, ?_⟩
      have hrk : (mk1 g t).rk = n2.k := by rw [e2]; rfl
      have hc1 := hgo rfl
      refine ⟨_, ?_, mk1 g t, rest, lk + 1, !decide ((V.int (n2.k : Int)) = .int (g.n.k : Int)), _, rfl, rfl, ns7, f5.trans ((FrN.same (fun _ _ e => e)).trans f6), fun h1 => ?_, fun h1 => ?_, ?_, fun z hz => hsub z (List.mem_cons_of_mem _ hz)⟩
      · show rest.length < rest.length + 1
        omega
      · have hne2 : ¬ (mk1 g t).rk = g.n.k := fun z => by
          rw [← hrk, z] at h1
          simp at h1
        have e3 : climb t (g :: rest) = ((climb (mk1 g t) rest).1, (climb (mk1 g t) rest).2 + 1) := if_neg hne2
        rw [hc1, e3]
        show (_, lk + ((climb (mk1 g t) rest).2 + 1)) = _
        rw [Nat.add_comm (climb (mk1 g t) rest).2 1, Nat.add_assoc]
      · have heq : (mk1 g t).rk = g.n.k := by
          rw [hrk]
          have h2 : decide ((V.int (n2.k : Int)) = .int (g.n.k : Int)) = true := by
            cases h3 : decide ((V.int (n2.k : Int)) = .int (g.n.k : Int)) with
            | true => rfl
            | false =>
              rw [h3] at h1
              cases h1
          have h4 := V.int.inj (of_decide_eq_true h2)
          omega
        have e3 : climb t (g :: rest) = (plug (mk1 g t) rest, 1) := if_pos heq
        rw [hc1, e3]
      · rw [← htop]
        exact thV_plug rest (t := mk1 g t) (t' := put1 g t) (by rw [thV_put1, thV_mk1])
    · rintro σ H5 ⟨C, lk, v4, v7, v8, rfl, ns5, f5, hcl, htop⟩
      have ns6 : NS H5 N kvs (subs C ++ subs U ++ R) := by
        rw [List.append_assoc]
        exact ns5
      refine ⟨_, rfl, _, rfl, _, rfl, N, kvs, R, C, U, by rw [htop, hUV]; rfl, ns6, ns6.sz, fun H6 q ns7 f7 hq hkq => ?_⟩
      refine ⟨_, rfl, q, _, 0, _, rfl, rfl, SqT.of hkq, rfl, _, rfl, _, rfl, q, _, 1, _, rfl, rfl, SqT.of hkq, rfl, _, _, rfl, rfl, (by show 2 ≤ sizeLine; decide), fun q3 hq3 => ?_⟩
      have sq := same_new (o := .tup [thV (join C U).1, .int ((lk : Int) + ((join C U).2 : Int))]) hq3
      have es : sunk n l r w (f :: fs) = ((join C U).1, lk + (join C U).2) := by rw [sunk_yes c2, hcl, hU]
      refine k _ q3 (by rw [es]; exact ns7.same sq) ((f5.trans f7).trans (FrN.same sq)) (ns7.free (f5.trans f7) hq3) ?_
      rw [es, upd_same]
      show some (HO.tup [thV (join C U).1, .int ((lk : Int) + ((join C U).2 : Int))]) = some (HO.tup [thV (join C U).1, .int ((lk + (join C U).2 : Nat) : Int)])
      rw [Int.natCast_add]
/-! ### a told tree as data -/
theorem Told.same {H H' : Hp} {L : Addr} {as : List Addr} {s : Tre} (h : Told H L as s) (m : Same H H') : Told H' L as s :=
  ⟨m _ _ h.lst, h.len, fun k a e => let ⟨x, h1, h2⟩ := h.row k a e; ⟨x, h1, m _ _ h2⟩⟩
def thD : Tre → PyData
  | .nil => .none
  | .nd n _ _ => .int (n.i : Int)
def rowD (x : Nd × Tre × Tre) : PyData := .tuple [.int x.1.i, .int x.1.w, thD x.2.1, thD x.2.2, .int x.1.k]
theorem thD_eqv (t : Tre) : PyData.eqv (thD t) (thD t) = true := by
  cases t <;> simp [thD, PyData.eqv]
theorem thD_lay (t : Tre) : PyData.canLay0 (thD t) = true ∧ PyData.depth (thD t) = 0 := by
  cases t <;> simp [thD, PyData.canLay0, PyData.depth]
theorem thD_dp {K : PySem.W.Frag} {H : Hp} (t : Tre) : Dp K H (thV t) (thD t) := by
  cases t with
  | nil => exact .non
  | nd n l r => exact .int _
theorem rows_data : ∀ l : List (Nd × Tre × Tre), PyData.canLayAll0 (l.map rowD) = true ∧ PyData.depthAll (l.map rowD) ≤ 1 ∧ PyData.eqvAll (l.map rowD) (l.map rowD) = true
  | [] => ⟨by simp [PyData.canLayAll0], by simp [PyData.depthAll], by simp [PyData.eqvAll]⟩
  | x :: l => by
    obtain ⟨h1, h2, h3⟩ := rows_data l
    obtain ⟨n, p, q⟩ := x
    refine ⟨?_, ?_, ?_⟩
    · rw [List.map_cons, PyData.canLayAll0, h1]
      simp [rowD, PyData.canLay0, PyData.canLayAll0, (thD_lay p).1, (thD_lay q).1]
    · rw [List.map_cons, PyData.depthAll]
      have e : (rowD (n, p, q)).depth = 1 := by simp [rowD, PyData.depth, PyData.depthAll, (thD_lay p).2, (thD_lay q).2]
      rw [e]
      omega
    · rw [List.map_cons, PyData.eqvAll, h3]
      simp [rowD, PyData.eqv, PyData.eqvAll, thD_eqv]
theorem rows_shaped (l : List (Nd × Tre × Tre)) : SeqAt.shaped (.list (l.map rowD)) = true := by
  obtain ⟨h1, h2, _⟩ := rows_data l
  unfold SeqAt.shaped
  have e1 : PyData.canLay0 (.list (l.map rowD)) = true := by rw [PyData.canLay0]; exact h1
  have e2 : PyData.depth (.list (l.map rowD)) ≤ 64 := by
    rw [PyData.depth]
    omega
  rw [e1, Bool.true_and]
  exact decide_eq_true e2
theorem rows_eqv (l : List (Nd × Tre × Tre)) : PyData.eqv (.list (l.map rowD)) (.list (l.map rowD)) = true := by
  rw [PyData.eqv]
  exact (rows_data l).2.2
theorem dpAll_rows {K : PySem.W.Frag} {H : Hp} : ∀ {as : List Addr} {l : List (Nd × Tre × Tre)}, as.length = l.length → (∀ (k : Nat) (a : Addr), as[k]? = some a → ∃ x, l[k]? = some x ∧ H a = some (.tup (rowOf x))) → DpAll K H (as.map V.ref) (l.map rowD)
  | [], [], _, _ => .nil
  | [], _ :: _, e, _ => by cases e
  | _ :: _, [], e, _ => by cases e
  | a :: as, q :: l, e, h => by
    obtain ⟨x, h1, h2⟩ := h 0 a rfl
    cases h1
    exact .cons (.tup (SqT.of h2) (.cons (.int _) (.cons (.int _) (.cons (thD_dp _) (.cons (thD_dp _) (.cons (.int _) .nil)))))) (dpAll_rows (Nat.succ.inj e) fun k b hb => h (k + 1) b hb)
/-! ### a tree told from the notes -/
def flatR (us : List Tre) : List (Nd × Tre × Tre) := us.reverse.flatMap subs
theorem flatR_snoc (us : List Tre) (t : Tre) : flatR (us ++ [t]) = subs t ++ flatR us := by
  unfold flatR
  rw [List.reverse_append]
  rfl
def wgt : List Tre → Nat
  | [] => 0
  | t :: us => 2 * t.size + 1 + wgt us
theorem wgt_snoc (t : Tre) : ∀ us : List Tre, wgt (us ++ [t]) = wgt us + (2 * t.size + 1)
  | [] => by show 2 * t.size + 1 + 0 = 0 + _; omega
  | u :: us => by
    show 2 * u.size + 1 + wgt (us ++ [t]) = 2 * u.size + 1 + wgt us + _
    rw [wgt_snoc t us]
    omega
theorem len_wgt : ∀ us : List Tre, us.length ≤ wgt us
  | [] => Nat.zero_le _
  | u :: us => by
    have := len_wgt us
    show us.length + 1 ≤ 2 * u.size + 1 + wgt us
    omega
def thD11 (t : Tre) : PyData := hD (thO t)
theorem ths_data : ∀ us : List Tre, PyData.canLayAll0 (us.map thD11) = true ∧ PyData.depthAll (us.map thD11) = 0
  | [] => ⟨by simp [PyData.canLayAll0], by simp [PyData.depthAll]⟩
  | t :: us => by
    obtain ⟨h1, h2⟩ := ths_data us
    refine ⟨?_, ?_⟩
    · rw [List.map_cons, PyData.canLayAll0, h1]
      cases t <;> simp [thD11, thO, hD, PyData.canLay0]
    · rw [List.map_cons, PyData.depthAll, h2]
      cases t <;> simp [thD11, thO, hD, PyData.depth]
theorem ths_shaped (us : List Tre) : SeqAt.shaped (.list (us.map thD11)) = true := by
  obtain ⟨h1, h2⟩ := ths_data us
  unfold SeqAt.shaped
  have e1 : PyData.canLay0 (.list (us.map thD11)) = true := by rw [PyData.canLay0]; exact h1
  have e2 : PyData.depth (.list (us.map thD11)) ≤ 64 := by
    rw [PyData.depth]
    omega
  rw [e1, Bool.true_and]
  exact decide_eq_true e2
theorem dpAll_ths {K : PySem.W.Frag} {H : Hp} : ∀ us : List Tre, DpAll K H (us.map thV) (us.map thD11)
  | [] => .nil
  | t :: us => .cons (by rw [thV_thO]; exact Dp.home _) (dpAll_ths us)
theorem eqv_ths_nil (us : List Tre) : PyData.eqv (.list (us.map thD11)) (.list []) = decide (us = []) := by
  cases us with
  | nil => simp [PyData.eqv, PyData.eqvAll]
  | cons q ps =>
    rw [decide_eq_false (by intro z; cases z)]
    simp [PyData.eqv, PyData.eqvAll]
structure TW (H H' : Hp) (L Wt : Addr) (us : List Tre) (as : List Addr) (Pn : List (Nd × Tre × Tre)) : Prop where
  same : Same H H'
  w : H' Wt = some (.lst (us.map thV))
  l : H' L = some (.lst (as.map V.ref))
  len : as.length = Pn.length
  row : ∀ (k : Nat) (a : Addr), as[k]? = some a → ∃ x, Pn[k]? = some x ∧ H' a = some (.tup (rowOf x))
section
variable {H H' H2 : Hp} {L Wt : Addr} {us : List Tre} {as : List Addr} {Pn : List (Nd × Tre × Tre)}
theorem TW.later (h : TW H H' L Wt us as Pn) (s : Same H' H2) : TW H H2 L Wt us as Pn :=
  ⟨fun b o e => s _ _ (h.same _ _ e), s _ _ h.w, s _ _ h.l, h.len, fun k a e => let ⟨x, h1, h2⟩ := h.row k a e; ⟨x, h1, s _ _ h2⟩⟩
theorem TW.wset (h : TW H H' L Wt us as Pn) (n : H Wt = none) (ne : L ≠ Wt) (us' : List Tre) : TW H (upd H' Wt (.lst (us'.map thV))) L Wt us' as Pn :=
  ⟨fun b o e => by rw [upd_ne (ne_of_none e n)]; exact h.same _ _ e, upd_same, by rw [upd_ne ne]; exact h.l, h.len, fun k a e => let ⟨x, h1, h2⟩ := h.row k a e; ⟨x, h1, by rw [upd_ne fun z => by rw [z, h.w] at h2; cases h2]; exact h2⟩⟩
theorem TW.ladd (h : TW H H' L Wt us as Pn) (n : H L = none) (ne : L ≠ Wt) {b : Addr} {x : Nd × Tre × Tre} (hb : H' b = some (.tup (rowOf x))) : TW H (upd H' L (.lst (as.map V.ref ++ [.ref b]))) L Wt us (as ++ [b]) (Pn ++ [x]) := by
  refine ⟨fun c o e => by rw [upd_ne (ne_of_none e n)]; exact h.same _ _ e, by rw [upd_ne ne.symm]; exact h.w, by rw [upd_same, List.map_append]; rfl, by rw [List.length_append, List.length_append, h.len]; rfl, fun k c hc => ?_⟩
  by_cases q : k < as.length
  · rw [List.getElem?_append_left q] at hc
    obtain ⟨y, h1, h2⟩ := h.row k c hc
    exact ⟨y, by rw [List.getElem?_append_left (by rw [← h.len]; exact q)]; exact h1, by rw [upd_ne fun z => by rw [z, h.l] at h2; cases h2]; exact h2⟩
  · have hk := get_len hc
    rw [List.length_append, List.length_singleton] at hk
    have ek : k = as.length := by omega
    rw [ek, List.getElem?_append_right (Nat.le_refl _), Nat.sub_self] at hc
    have ec : b = c := Option.some.inj hc
    subst ec
    exact ⟨x, by rw [ek, h.len, List.getElem?_append_right (Nat.le_refl _), Nat.sub_self]; rfl, by rw [upd_ne fun z => by rw [z, h.l] at hb; cases hb]; exact hb⟩
end
def sp_told11 : Sp := fun vs H Q _ => ∃ (N : Addr) (kvs : List (Key × V)) (R : List (Nd × Tre × Tre)) (t : Tre), vs = [.ref N, thV t] ∧ NS H N kvs R ∧ (∀ x ∈ subs t, x ∈ R) ∧ t.size ≤ 1000 ∧ ∀ H' L as, Same H H' → H L = none → Told H' L as t → Q (.ref L) H'
theorem ok_told11 (T : Txt K mg) : FnOk P w K mg base CX0 1 T.a_l_told T.d_l_told ["_law_notes", "_law_top_here"] sp_told11 := by
  refine T.F_l_told.ok sc_l_told (fun vs H Q E h => ?_) (fun cdv A outer s H vs Q E hr h => ?_)
  · obtain ⟨N, kvs, R, t, rfl, _⟩ := h
    rfl
  · obtain ⟨N, kvs, R, t, rfl, ns, sub, hsz, k⟩ := h
    refine ⟨_, (pss_cons (ps_set (i := 2) sc_l_told.nd rfl (.inl rfl) (pe_lst pa_nil))
  (pss_cons (ps_set (i := 3) sc_l_told.nd rfl (.inl rfl) (pe_lst (pa_cons (pv 1) pa_nil)))
  (pss_cons (ps_while PassesOwn.never (pt_cmpR (op_neD hr.units) (pv 3) (pe_lst pa_nil) (nomark _))
  (pss_cons (ps_set (i := 4) sc_l_told.nd rfl (.inl rfl) (pe_bm0 PySem.F.plainAttrs_list PySem.F.slot_list_pop PySem.F.type_list_pop mt_pop (pv 3)))
  (pss_one (ps_if (pt_cmpR op_notN (pv 4) pe_non (nomark _))
  (pss_cons (ps_set (i := 5) sc_l_told.nd rfl (.inl rfl) (pe_dget (hu_of hr) (pv 0) (pv 4) (fun _ _ => rfl)))
  (pss_cons (ps_expr (pe_bm PySem.F.plainAttrs_list PySem.F.slot_list_append PySem.F.type_list_append mt_append (pv 2) (pa_cons (pe_tup (pa_cons (pv 4) (pa_cons (pe_ix ix_list (pv 5) pe_int (fun _ _ => rfl)) (pa_cons (pe_ix ix_list (pv 5) pe_int (fun _ _ => rfl)) (pa_cons (pe_ix ix_list (pv 5) pe_int (fun _ _ => rfl)) (pa_cons (pe_ix ix_list (pv 5) pe_int (fun _ _ => rfl)) pa_nil)))))) pa_nil)))
  (pss_cons (ps_expr (pe_bm PySem.F.plainAttrs_list PySem.F.slot_list_append PySem.F.type_list_append mt_append (pv 3) (pa_cons (pe_ix ix_list (pv 5) pe_int (fun _ _ => rfl)) pa_nil)))
  (pss_one (ps_expr (pe_bm PySem.F.plainAttrs_list PySem.F.slot_list_append PySem.F.type_list_append mt_append (pv 3) (pa_cons (pe_ix ix_list (pv 5) pe_int (fun _ _ => rfl)) pa_nil)))))))
  pss_nil))))
  (pss_one (ps_ret (pv 2)))))), ?_⟩
    refine ⟨Nat.zero_le _, fun L hL => ?_⟩
    refine ⟨_, rfl, by show 1 ≤ sizeLine; decide, fun Wt hWt => ?_⟩
    have nWt : H Wt = none := Same.free (same_new (o := .lst []) hL) hWt
    have ne : L ≠ Wt := ne_of_none (H := upd H L (.lst [])) upd_same hWt
    have t0 : TW H (upd (upd H L (.lst [])) Wt (.lst [thV t])) L Wt [t] [] [] := by
      have h1 : TW H (upd H L (.lst [])) L Wt [] [] [] → True := fun _ => trivial
      exact ⟨fun b o e => same_new hWt _ _ (same_new hL _ _ e), upd_same, by rw [upd_ne ne, upd_same]; rfl, rfl, fun k a e => by simp at e⟩
    refine ⟨fun (m : Nat) (σ : L2.St) (H' : Hp) => ∃ (us : List Tre) (as : List Addr) (Pn : List (Nd × Tre × Tre)) (v4 v5 : Option V), m = wgt us ∧ σ = [some (V.ref N), some (thV t), some (V.ref L), some (V.ref Wt), v4, v5] ∧ TW H H' L Wt us as Pn ∧ subs t = Pn ++ flatR us ∧ (∀ u ∈ us, ∀ x ∈ subs u, x ∈ R) ∧ wgt us ≤ 2001,
      ⟨_, [t], [], [], none, none, rfl, rfl, t0, by show _ = subs t ++ []; rw [List.append_nil], fun u hu x hx => sub x (by rw [← List.mem_singleton.mp hu]; exact hx), by show 2 * t.size + 1 + 0 ≤ 2001; omega⟩, ?_⟩
    rintro M σ H' ⟨us, as, Pn, v4, v5, rfl, rfl, tw, hsub, hin, hw⟩
    have lus := len_wgt us
    have lPn : Pn.length ≤ 1000 := by
      have h1 := congrArg List.length hsub
      rw [List.length_append, ← List.length_map (·.1), subs_nodes, size_nodes] at h1
      omega
    refine ⟨_, rfl, Nat.zero_le _, fun e0 he0 => ⟨_, _, .lst (SqL.of (same_new he0 _ _ tw.w)) (dpAll_ths us), Dp.none upd_same, ths_shaped us, rfl, ?_⟩⟩
    rw [eqv_ths_nil]
    have tw2 := tw.later (same_new (o := .lst []) he0)
    generalize upd H' e0 (.lst []) = H2 at tw2 ⊢
    refine ⟨_, rfl, ?_⟩
    rcases nil_or_snoc us with rfl | ⟨us', u, rfl⟩
    · refine iteF ⟨_, rfl, k H2 L as tw2.same hL ⟨tw2.l, ?_, fun j a e => ?_⟩⟩
      · rw [hsub, tw2.len]
        show _ = (Pn ++ []).length
        rw [List.append_nil]
      · obtain ⟨x, h1, h2⟩ := tw2.row j a e
        refine ⟨x, ?_, h2⟩
        rw [hsub]
        show (Pn ++ [])[j]? = _
        rw [List.append_nil]
        exact h1
    rw [decide_eq_false (by simp)]
    refine iteT ⟨_, fun _ _ h => h, ?_⟩
    have elast : ((us' ++ [u]).map thV)[((us' ++ [u]).map thV).length - 1]? = some (thV u) := by
      rw [List.map_append, List.length_append, List.length_map]
      show _ = some (thV u)
      rw [List.getElem?_append_right (by rw [List.length_map]; simp)]
      simp
    have edrop : ((us' ++ [u]).map thV).dropLast = us'.map thV := by
      rw [List.map_append]
      exact List.dropLast_concat
    refine ⟨_, rfl, .inl ⟨rfl, _, SqL.of tw2.w⟩, Wt, _, _, rfl, rfl, tw2.w, elast, ?_⟩
    rw [edrop]
    have tw3 := tw2.wset nWt ne us'
    generalize upd H2 Wt (.lst (us'.map thV)) = H3 at tw3 ⊢
    rw [wgt_snoc] at hw
    rw [flatR_snoc] at hsub
    refine ⟨_, rfl, rfl, _, rfl, ?_⟩
    cases u with
    | nil =>
      refine iteF ⟨_, ?_, us', as, Pn, _, _, rfl, rfl, tw3, hsub, fun u hu => hin u (List.mem_append_left _ hu), by omega⟩
      rw [wgt_snoc]
      omega
    | nd n l r =>
    have hx : (n, l, r) ∈ R := hin _ (List.mem_append_right _ (List.mem_singleton.mpr rfl)) _ List.mem_cons_self
    have ns3 := ns.same tw3.same
    obtain ⟨a, hva, hga, ha⟩ := ns3.get hx
    refine iteT ⟨_, rfl, _, rfl, N, .ref a, rfl, hga, ?_⟩
    refine ⟨_, rfl, .inl ⟨rfl, _, SqL.of tw3.l⟩, _, rfl, _, rfl, a, _, 0, _, rfl, rfl, SqL.of ha, rfl, _, rfl, a, _, 1, _, rfl, rfl, SqL.of ha, rfl, _, rfl, a, _, 2, _, rfl, rfl, SqL.of ha, rfl, _, rfl, a, _, 3, _, rfl, rfl, SqL.of ha, rfl, by show 5 ≤ sizeLine; decide, fun b hb => ?_⟩
    have tw4 := tw3.later (same_new (o := .tup (rowOf (n, l, r))) hb)
    have kb : (upd H3 b (.tup (rowOf (n, l, r)))) b = some (.tup (rowOf (n, l, r))) := upd_same
    have ha4 := same_new (o := .tup (rowOf (n, l, r))) hb _ _ ha
    have eRow : ([thV (.nd n l r), .int (n, l, r).1.w, thV (n, l, r).2.1, thV (n, l, r).2.2, .int ((n, l, r).1.k : Int)] : List V) = rowOf (n, l, r) := rfl
    rw [eRow]
    generalize upd H3 b (.tup (rowOf (n, l, r))) = H4 at tw4 kb ha4 ⊢
    refine ⟨L, as.map V.ref, _, rfl, rfl, tw4.l, Evl.sz_lt (by rw [List.length_map, tw4.len]; omega), ?_⟩
    have tw5 := tw4.ladd hL ne kb
    have aL : a ≠ L := fun z => by
      obtain ⟨x, _, _, h2⟩ := ns.live hva
      rw [z, hL] at h2
      cases h2
    have ha5 : (upd H4 L (.lst (as.map V.ref ++ [.ref b]))) a = some (.lst (noteL (n, l, r))) := by
      rw [upd_ne aL]
      exact ha4
    have aW : a ≠ Wt := fun z => by
      obtain ⟨x, _, _, h2⟩ := ns.live hva
      rw [z, nWt] at h2
      cases h2
    generalize upd H4 L (.lst (as.map V.ref ++ [.ref b])) = H5 at tw5 ha5 ⊢
    refine ⟨_, rfl, .inl ⟨rfl, _, SqL.of tw5.w⟩, _, rfl, a, _, 2, thV r, rfl, rfl, SqL.of ha5, rfl, Wt, _, _, rfl, rfl, tw5.w, Evl.sz_lt (by rw [List.length_map]; have := len_wgt us'; omega), ?_⟩
    have e6 : us'.map thV ++ [thV r] = (us' ++ [r]).map thV := by rw [List.map_append]; rfl
    rw [e6]
    have tw6 := tw5.wset nWt ne (us' ++ [r])
    have ha6 : (upd H5 Wt (.lst ((us' ++ [r]).map thV))) a = some (.lst (noteL (n, l, r))) := by
      rw [upd_ne aW]
      exact ha5
    generalize upd H5 Wt (.lst ((us' ++ [r]).map thV)) = H6 at tw6 ha6 ⊢
    refine ⟨_, rfl, .inl ⟨rfl, _, SqL.of tw6.w⟩, _, rfl, a, _, 1, thV l, rfl, rfl, SqL.of ha6, rfl, Wt, _, _, rfl, rfl, tw6.w, Evl.sz_lt (by rw [List.length_map, List.length_append, List.length_singleton]; have := len_wgt us'; omega), ?_⟩
    have e7 : (us' ++ [r]).map thV ++ [thV l] = (us' ++ [r] ++ [l]).map thV := by rw [List.map_append (l₁ := us' ++ [r])]; rfl
    rw [e7]
    have tw7 := tw6.wset nWt ne (us' ++ [r] ++ [l])
    refine ⟨_, ?_, us' ++ [r] ++ [l], as ++ [b], Pn ++ [(n, l, r)], _, _, rfl, rfl, tw7, ?_, fun u hu x hxu => ?_, ?_⟩
    · rw [wgt_snoc, wgt_snoc, wgt_snoc]
      show wgt us' + (2 * r.size + 1) + (2 * l.size + 1) < wgt us' + (2 * (l.size + r.size + 1) + 1)
      omega
    · rw [hsub, flatR_snoc, flatR_snoc, subs_nd]
      simp
    · rcases List.mem_append.mp hu with q | q
      · rcases List.mem_append.mp q with q2 | q2
        · exact hin u (List.mem_append_left _ q2) x hxu
        · rw [List.mem_singleton.mp q2] at hxu
          exact hin _ (List.mem_append_right _ (List.mem_singleton.mpr rfl)) x (List.mem_cons_of_mem _ (List.mem_append_right _ hxu))
      · rw [List.mem_singleton.mp q] at hxu
        exact hin _ (List.mem_append_right _ (List.mem_singleton.mpr rfl)) x (List.mem_cons_of_mem _ (List.mem_append_left _ hxu))
    · rw [wgt_snoc, wgt_snoc]
      have hw2 : wgt us' + (2 * (l.size + r.size + 1) + 1) ≤ 2001 := hw
      omega
/-! ### rows noted -/
theorem putK_mem {kvs : List (Key × V)} {k : Key} {v : V} {q : Key × V} (h : q ∈ putK kvs k v) : q.1 = k ∨ ∃ q' ∈ kvs, q'.1 = q.1 := by
  unfold putK at h
  split at h
  · obtain ⟨q', h1, h2⟩ := List.mem_map.mp h
    right
    refine ⟨q', h1, ?_⟩
    rw [← h2]
    split <;> rfl
  · rcases List.mem_append.mp h with z | z
    · exact .inr ⟨q, z, rfl⟩
    · rw [List.mem_singleton.mp z]
      exact .inl rfl
theorem NS.put {H : Hp} {N b : Addr} {kvs : List (Key × V)} {R : List (Nd × Tre × Tre)} {x : Nd × Tre × Tre} (h : NS H N kvs R) (hx : x.1.i ∉ R.map idR) (hb : H b = none) (hs : R.length < 2000) :
    NS (upd (upd H b (.lst (noteL x))) N (.dK (putK kvs (keyI x.1.i) (.ref b)))) N (putK kvs (keyI x.1.i) (.ref b)) (R ++ [x]) := by
  have bN : b ≠ N := fun z => by
    have := h.d
    rw [← z, hb] at this
    cases this
  have old : ∀ y ∈ R, keyI y.1.i ≠ keyI x.1.i := fun y hy e => hx (List.mem_map.mpr ⟨y, hy, keyI_inj e⟩)
  refine ⟨upd_same, ?_, fun y hy => ?_, fun q hq => ?_, fun i j a hi hj => ?_, ?_, ?_⟩
  · have h1 := length_putK kvs (keyI x.1.i) (.ref b)
    have h2 := h.len
    rw [List.length_append, List.length_singleton]
    omega
  · rcases List.mem_append.mp hy with z | z
    · obtain ⟨a, h1, h2⟩ := h.at_ y z
      refine ⟨a, by rw [valV_put, if_neg (old y z)]; exact h1, ?_⟩
      rw [upd_ne fun q => ?_, upd_ne fun q => ?_]
      · exact h2
      · rw [q, hb] at h2
        cases h2
      · have := h.d
        rw [← q, h2] at this
        cases this
    · rw [List.mem_singleton.mp z]
      exact ⟨b, by rw [valV_put, if_pos rfl], by rw [upd_ne bN, upd_same]⟩
  · rcases putK_mem hq with e | ⟨q', h1, h2⟩
    · exact ⟨x, List.mem_append_right _ (List.mem_singleton.mpr rfl), e⟩
    · obtain ⟨y, h3, h4⟩ := h.all q' h1
      exact ⟨y, List.mem_append_left _ h3, by rw [← h2]; exact h4⟩
  · have nb : ∀ k, valV kvs k ≠ some (.ref b) := fun k e => by
      obtain ⟨y, _, _, h2⟩ := h.live e
      rw [hb] at h2
      cases h2
    rw [valV_put] at hi hj
    by_cases ci : i = keyI x.1.i
    · by_cases cj : j = keyI x.1.i
      · rw [ci, cj]
      · rw [if_pos ci] at hi
        rw [if_neg cj] at hj
        cases hi
        exact absurd hj (nb j)
    · rw [if_neg ci] at hi
      by_cases cj : j = keyI x.1.i
      · rw [if_pos cj] at hj
        cases hj
        exact absurd hi (nb i)
      · rw [if_neg cj] at hj
        exact h.inj _ _ _ hi hj
  · rw [List.map_append, List.nodup_append]
    refine ⟨h.nd, (by simp), fun i hi j hj e => ?_⟩
    rw [List.mem_singleton.mp hj] at e
    exact hx (by rw [show x.1.i = idR x from rfl, ← e]; exact hi)
  · rw [List.length_append, List.length_singleton]
    omega
def sp_noted : Sp := fun vs H Q _ => ∃ (N L : Addr) (kvs : List (Key × V)) (R : List (Nd × Tre × Tre)) (as : List Addr) (t : Tre), vs = [.ref N, .ref L] ∧ NS H N kvs R ∧ Told H L as t ∧ ((R ++ subs t).map idR).Nodup ∧ (R ++ subs t).length ≤ 2000 ∧
  ∀ H' kvs', NS H' N kvs' (R ++ subs t) → (∀ b o, H b = some o → b ≠ N → H' b = some o) → (∀ kk a, valV kvs' kk = some (.ref a) → valV kvs kk = some (.ref a) ∨ H a = none) → Q .non H'
theorem ok_noted (T : Txt K mg) : FnOk P w K mg base CX0 1 T.a_l_noted T.d_l_noted ["_law_notes", "_law_rows"] sp_noted := by
  refine T.F_l_noted.ok sc_l_noted (fun vs H Q E h => ?_) (fun cdv A outer s H vs Q E hr h => ?_)
  · obtain ⟨N, L, kvs, R, as, t, rfl, _⟩ := h
    rfl
  · obtain ⟨N, L, kvs, R, as, t, rfl, ns, told, hnd, hsz, k⟩ := h
    refine ⟨_, (pss_one (ps_for PassesOwn.never rfl (pi_list (pv 1)) (pg_name (i := 2) sc_l_noted.nd rfl (.inl rfl))
  (pss_one (ps_dput (hu_of hr) (pv 0) (pe_ix ix_tup (pv 2) pe_int (fun _ _ => rfl)) (pe_lst (pa_cons (pe_ix ix_tup (pv 2) pe_int (fun _ _ => rfl)) (pa_cons (pe_ix ix_tup (pv 2) pe_int (fun _ _ => rfl)) (pa_cons (pe_ix ix_tup (pv 2) pe_int (fun _ _ => rfl)) (pa_cons (pe_ix ix_tup (pv 2) pe_int (fun _ _ => rfl)) pa_nil))))) rfl)))), ?_⟩
    have LN : L ≠ N := fun z => by
      have := told.lst
      rw [z, ns.d] at this
      cases this
    refine ⟨_, rfl, L, rfl, ⟨_, SqL.of told.lst⟩, for_list (K := K) (a := L) (xs := as.map V.ref) (fun i σ H' => ∃ (kvs' : List (Key × V)) (v2 : Option V), σ = [some (.ref N), some (.ref L), v2] ∧ NS H' N kvs' (R ++ (subs t).take i) ∧ (∀ b o, H b = some o → b ≠ N → H' b = some o) ∧ (∀ kk a, valV kvs' kk = some (.ref a) → valV kvs kk = some (.ref a) ∨ H a = none)) ?_ ?_ ?_ ?_⟩
    · exact ⟨kvs, none, rfl, by rw [List.take_zero, List.append_nil]; exact ns, fun b o e _ => e, fun kk a e => .inl e⟩
    · rintro i σ H' _ ⟨kvs', v2, _, _, f, _⟩
      exact SqL.of (f _ _ told.lst LN)
    · rintro i x σ H' hx ⟨kvs', v2, rfl, ns', f, fn⟩
      rw [List.getElem?_map] at hx
      obtain ⟨ak, hak, rfl⟩ := Option.map_eq_some_iff.mp hx
      obtain ⟨⟨n, l, r⟩, hrow, htup⟩ := told.row i ak hak
      have akN : ak ≠ N := fun z => by
        have := ns.d
        rw [← z, htup] at this
        cases this
      have ht' := f _ _ htup akN
      have hi := get_len hrow
      have etk : (subs t).take (i + 1) = (subs t).take i ++ [(n, l, r)] := by
        rw [List.take_succ, hrow]
        rfl
      refine ⟨_, rfl, ak, _, 1, _, rfl, rfl, SqT.of ht', rfl, _, rfl, ak, _, 2, _, rfl, rfl, SqT.of ht', rfl, _, rfl, ak, _, 3, _, rfl, rfl, SqT.of ht', rfl, _, rfl, ak, _, 4, _, rfl, rfl, SqT.of ht', rfl, by show 4 ≤ sizeLine; decide, fun b hb => ?_⟩
      have hb' : H b = none := by
        cases e : H b with
        | none => rfl
        | some o =>
          by_cases c : b = N
          · rw [c, ns'.d] at hb
            cases hb
          · rw [f b o e c] at hb
            cases hb
      have ns2 := ns'.put (x := (n, l, r)) (fun hm => ?_) hb ?_
      · refine ⟨_, rfl, _, rfl, ak, _, 0, _, rfl, rfl, SqT.of (same_new hb _ _ ht'), rfl, N, _, rfl, DPut.k (k := keyI n.i) (same_new hb _ _ ns'.d) ?_, putK kvs' (keyI n.i) (.ref b), _, rfl, ?_, fun c o e hc => ?_, fun kk a2 e => ?_⟩
        · have h1 := ns'.len
          have h2 := ns'.sz
          exact Nat.lt_of_le_of_lt (Nat.le_trans h1 h2) (by decide)
        · rw [etk, ← List.append_assoc]
          exact ns2
        · rw [upd_ne hc, upd_ne (ne_of_none e hb')]
          exact f c o e hc
        · rw [valV_put] at e
          by_cases ck : kk = keyI n.i
          · rw [if_pos ck] at e
            cases e
            exact .inr hb'
          · rw [if_neg ck] at e
            exact fn kk a2 e
      · have h3 : ((R ++ (subs t).take (i + 1)).map idR).Nodup := by
          refine hnd.sublist (List.Sublist.map _ ?_)
          exact List.Sublist.append (List.Sublist.refl _) (List.take_sublist _ _)
        rw [etk, ← List.append_assoc, List.map_append, List.nodup_append] at h3
        exact absurd rfl (h3.2.2 _ hm _ (List.mem_singleton.mpr rfl))
      · rw [List.length_append, List.length_take]
        rw [List.length_append] at hsz
        omega
    · rintro σ H' ⟨kvs', v2, rfl, ns', f, fn⟩
      have e : (subs t).take (as.map V.ref).length = subs t := by
        rw [List.length_map, told.len, List.take_length]
      rw [e] at ns'
      exact k H' kvs' ns' f fn
/-- the top of the rows -/
theorem eqv_rows_nil (l : List (Nd × Tre × Tre)) : PyData.eqv (.list (l.map rowD)) (.list []) = decide (l = []) := by
  cases l with
  | nil => simp [PyData.eqv, PyData.eqvAll]
  | cons q ps =>
    rw [decide_eq_false (by intro z; cases z)]
    simp [PyData.eqv, PyData.eqvAll]
theorem Told.dp {K : PySem.W.Frag} {H : Hp} {L : Addr} {as : List Addr} {t : Tre} (h : Told H L as t) : Dp K H (.ref L) (.list ((subs t).map rowD)) := .lst (SqL.of h.lst) (dpAll_rows h.len h.row)
theorem subs_nil {t : Tre} : subs t = [] ↔ t = .nil := by
  cases t with
  | nil => exact ⟨fun _ => rfl, fun _ => rfl⟩
  | nd n l r => exact ⟨fun z => (by cases z), fun z => (by cases z)⟩
def sp_top11 : Sp := fun vs H Q _ => ∃ (L : Addr) (as : List Addr) (t : Tre), vs = [.ref L] ∧ Told H L as t ∧ ∀ H', Same H H' → Q (thV t) H'
theorem ok_top11 (T : Txt K mg) : FnOk P w K mg base CX0 1 T.a_l_top T.d_l_top ["_law_rows"] sp_top11 := by
  refine T.F_l_top.ok sc_l_top (fun vs H Q E h => ?_) (fun cdv A outer s H vs Q E hr h => ?_)
  · obtain ⟨L, as, t, rfl, _⟩ := h
    rfl
  · obtain ⟨L, as, t, rfl, told, k⟩ := h
    refine ⟨_, (pss_cons (ps_if (pt_cmpR (op_eqD hr.units) (pv 0) (pe_lst pa_nil) (nomark _))
  (pss_one (ps_ret pe_non))
  pss_nil)
  (pss_one (ps_ret (pe_ix ix_tup (pe_ix ix_list (pv 0) pe_int (fun _ _ => rfl)) pe_int (fun _ _ => rfl))))), ?_⟩
    refine ⟨_, rfl, Nat.zero_le _, fun e0 he0 => ⟨_, _, (told.same (same_new he0)).dp, Dp.none upd_same, rows_shaped _, rfl, ?_⟩⟩
    rw [eqv_rows_nil]
    have s1 : Same H (upd H e0 (.lst [])) := same_new he0
    refine ⟨_, rfl, t_2 (fun c => ?_) (fun c => ?_)⟩
    · rw [subs_nil] at c
      rw [c] at k
      exact k _ s1
    · cases t with
      | nil => exact absurd rfl c
      | nd n l r =>
        have h1 := told.same s1
        obtain ⟨a0, ha0⟩ : ∃ a0, as[0]? = some a0 := ⟨as[0]'(by rw [told.len]; exact Nat.succ_pos _), List.getElem?_eq_getElem (by rw [told.len]; exact Nat.succ_pos _)⟩
        obtain ⟨x, hx, ht⟩ := h1.row 0 a0 ha0
        cases hx
        exact ⟨_, rfl, L, as.map V.ref, 0, .ref a0, rfl, rfl, SqL.of h1.lst, atI_nat (j := 0) (by rw [List.getElem?_map, ha0]; rfl), a0, _, 0, _, rfl, rfl, SqT.of ht, rfl, k _ s1⟩
def sp_cell (K : PySem.W.Frag) : Sp := fun vs H Q _ => ∃ (a : Addr) (ns : List Int) (i : Nat), vs = [.ref a, .int (i : Int)] ∧ SqL K H a (ns.map V.int) ∧ Q (.int (ns.getD i 0)) H
theorem ok_cell (T : Txt K mg) : FnOk P w K mg base CX0 1 T.a_l_cell T.d_l_cell ["_law_script", "_law_k"] (sp_cell K) := by
  refine T.F_l_cell.ok sc_l_cell (fun vs H Q E h => ?_) (fun cdv A outer s H vs Q E hr h => ?_)
  · obtain ⟨a, ns, i, rfl, _⟩ := h
    rfl
  · obtain ⟨a, ns, i, rfl, hS, k⟩ := h
    refine ⟨_, (pss_cons (ps_if (pt_cmpR op_lt (pv 1) (pe_callB call_len_seq (by rfl) T.z_len PySem.boot_len (pa_cons (pv 0) pa_nil)) (nomark _))
  (pss_one (ps_ret (pe_ix ix_list (pv 0) (pv 1) (fun _ _ => rfl))))
  pss_nil)
  (pss_one (ps_ret pe_int))), ?_⟩
    refine ⟨_, rfl, _, rfl, a, ns.map V.int, rfl, .inl hS, _, _, rfl, rfl, _, rfl, t_2 (fun c => ?_) (fun c => ?_)⟩
    · rw [List.length_map] at c
      have hi : i < ns.length := by omega
      refine ⟨_, rfl, _, rfl, a, ns.map V.int, (i : Int), .int ns[i], rfl, rfl, hS, atI_nat (by rw [List.getElem?_map, List.getElem?_eq_getElem hi]; rfl), ?_⟩
      have e : ns.getD i 0 = ns[i] := by simp [List.getD, List.getElem?_eq_getElem hi]
      rw [e] at k
      exact k
    · rw [List.length_map] at c
      have e : ns.getD i 0 = 0 := by simp [List.getD, List.getElem?_eq_none (show ns.length ≤ i by omega)]
      rw [e] at k
      exact k
/-- some weight -/
def sp_weight10 : Sp := fun vs H Q _ => ∃ c k : Int, vs = [.int c, .int k] ∧ ∀ w : Int, Q (.int w) H
theorem ok_weight10 (T : Txt K mg) : FnOk P w K mg base CX0 1 T.a_l_weight T.d_l_weight ["_law_cell_here", "_law_k"] sp_weight10 := by
  refine T.F_l_weight.ok sc_l_weight (fun vs H Q E h => ?_) (fun cdv A outer s H vs Q E hr h => ?_)
  · obtain ⟨c, k, rfl, _⟩ := h
    rfl
  · obtain ⟨c, k', rfl, k⟩ := h
    refine ⟨_, (pss_cons (ps_if (pt_cmpR op_eq (pe_op (op_modK 4 (by decide)) (pv 0) pe_int) pe_int (nomark _))
  (pss_one (ps_ret (pe_op op_sub (pe_op (op_modK 9 (by decide)) (pe_op (op_fdivK 4 ⟨by decide, by decide⟩) (pv 0) pe_int) pe_int) pe_int)))
  pss_nil)
  (pss_cons (ps_if (pt_cmpR op_eq (pe_op (op_modK 4 (by decide)) (pv 0) pe_int) pe_int (nomark _))
  (pss_one (ps_ret (pe_op op_sub (pe_op (op_modK 2001 (by decide)) (pe_op (op_fdivK 4 ⟨by decide, by decide⟩) (pv 0) pe_int) pe_int) pe_int)))
  pss_nil)
  (pss_cons (ps_if (pt_cmpR op_eq (pe_op (op_modK 4 (by decide)) (pv 0) pe_int) pe_int (nomark _))
  (pss_one (ps_ret (pe_op (op_modK 3 (by decide)) (pe_op (op_fdivK 4 ⟨by decide, by decide⟩) (pv 0) pe_int) pe_int)))
  pss_nil)
  (pss_one (ps_ret (pe_un un_neg (pv 1))))))), ?_⟩
    refine ⟨_, rfl, _, rfl, rfl, rfl, _, rfl, t_2 (fun c0 => ?_) (fun c0 => ?_)⟩
    · exact ⟨_, rfl, _, rfl, rfl, _, rfl, rfl, _, _, rfl, rfl, k _⟩
    refine ⟨_, rfl, _, rfl, rfl, rfl, _, rfl, t_2 (fun c1 => ?_) (fun c1 => ?_)⟩
    · exact ⟨_, rfl, _, rfl, rfl, _, rfl, rfl, _, _, rfl, rfl, k _⟩
    refine ⟨_, rfl, _, rfl, rfl, rfl, _, rfl, t_2 (fun c2 => ?_) (fun c2 => ?_)⟩
    · exact ⟨_, rfl, _, rfl, rfl, _, rfl, rfl, k _⟩
    exact ⟨_, rfl, _, rfl, k _⟩
theorem Fd.forget {C D : Addr} {H0 H1 H : Hp} {p : Addr} {S : Fs} (F : Fd C D H1 H p S) (s : Same H0 H1) : Fd C D H0 H p S := by
  obtain ⟨G, dx, lt, ln, A⟩ := F
  exact ⟨G, dx, lt, ln, fun b o hb => A.same _ _ (s b o hb), s.free A.p0, s.free A.t0, s.free A.n0, A.ob, A.lts, A.lns, A.ne, fun t ht => ⟨(A.tr t ht).1, fun b hb => s.free ((A.tr t ht).2 b hb)⟩⟩
/-- a deed ahead -/
def sp_done (C D : Addr) : Sp := fun vs H Q _ => ∃ (H0 : Hp) (p : Addr) (S : Fs) (j o : Nat) (kind more k : Int), vs = [.ref p, .int (j : Int), .int (o : Int), .int kind, .int more, .int k] ∧ Fd C D H0 H p S ∧ j ≠ o ∧ j < S.ts.length ∧ o < S.ts.length ∧ S.ts.length ≤ 1000 ∧ S.ns.length < 1000 ∧
  ∀ H' S', Fd C D H0 H' p S' → S'.ts.length = S.ts.length → S'.ns.length ≤ S.ns.length + 1 → Q .non H'
theorem ok_done (T : Txt K mg) : FnOk P w K mg base CX0 27 T.a_l_done T.d_l_done ["_law_field", "_law_heap", "_law_other", "_law_kind", "_law_more", "_law_k"] (sp_done T.c_Node T.c_Field) := by
  have G_l_weight : FnOk P w K mg base CX0 26 _ _ _ _ := (ok_weight10 T).mono (by decide)
  have G_Field_tree : FnOk P w K mg base (L2.CX P w) 26 _ _ _ _ := (ok_tree T).mono (by decide)
  have G_Field_take : FnOk P w K mg base (L2.CX P w) 26 _ _ _ _ := ok_take T
  have G_Field_sink : FnOk P w K mg base (L2.CX P w) 26 _ _ _ _ := ok_sink T
  have G_Field_pour : FnOk P w K mg base (L2.CX P w) 26 _ _ _ _ := ok_pour T
  have G_Field_put : FnOk P w K mg base (L2.CX P w) 26 _ _ _ _ := ok_put T
  refine T.F_l_done.ok sc_l_done (fun vs H Q E h => ?_) (fun cdv A outer s H vs Q E hr h => ?_)
  · obtain ⟨H0, p, S, j, o, kind, more, k, rfl, _⟩ := h
    rfl
  · obtain ⟨H0, p, S, j, o, kind, more, k0, rfl, F, hjo, hj, ho, hts, hns, k⟩ := h
    refine ⟨_, (pss_cons (ps_set (i := 6) sc_l_done.nd rfl (.inl rfl) (pe_meth (pv 0) T.cl_Field T.m_Field_tree G_Field_tree hr T.b_Field_tree .nil passL (pa_cons (pv 1) pa_nil)))
  (pss_one (ps_if (PW.pt (pw_and (pt_cmpR op_eq (pv 3) pe_int (nomark _)) (pw_and1 (pt_cmpR (op_neD hr.units) (pv 6) (pe_lst pa_nil) (nomark _)))))
  (pss_one (ps_expr (pe_meth (pv 0) T.cl_Field T.m_Field_take G_Field_take hr T.b_Field_take .nil passL (pa_cons (pv 1) pa_nil))))
  (pss_one (ps_if (PW.pt (pw_and (pt_cmpR op_eq (pv 3) pe_int (nomark _)) (pw_and1 (pt_cmpR (op_neD hr.units) (pv 6) (pe_lst pa_nil) (nomark _)))))
  (pss_cons (ps_set (i := 7) sc_l_done.nd rfl (.inl rfl) (pe_ix ix_list (pv 6) (pe_op op_mod (pv 4) (pe_callB call_len_seq (by rfl) T.z_len PySem.boot_len (pa_cons (pv 6) pa_nil))) (fun _ _ => rfl)))
  (pss_one (ps_expr (pe_meth (pv 0) T.cl_Field T.m_Field_sink G_Field_sink hr T.b_Field_sink .nil passL (pa_cons (pe_ix ix_tup (pv 7) pe_int (fun _ _ => rfl)) (pa_cons (pe_op op_sub (pe_ix ix_tup (pv 7) pe_int (fun _ _ => rfl)) (pe_op (op_modK 40 (by decide)) (pe_op op_fdiv (pv 4) (pe_callB call_len_seq (by rfl) T.z_len PySem.boot_len (pa_cons (pv 6) pa_nil))) pe_int)) pa_nil))))))
  (pss_one (ps_if (PW.pt (pw_and (pt_cmpR op_eq (pv 3) pe_int (nomark _)) (pw_and1 (pt_cmpR op_eq (pe_op (op_modK 4 (by decide)) (pv 4) pe_int) pe_int (nomark _)))))
  (pss_one (ps_expr (pe_meth (pv 0) T.cl_Field T.m_Field_pour G_Field_pour hr T.b_Field_pour .nil passL (pa_cons (pv 1) (pa_cons (pv 2) pa_nil)))))
  (pss_one (ps_expr (pe_meth (pv 0) T.cl_Field T.m_Field_put G_Field_put hr T.b_Field_put .nil passL (pa_cons (pv 1) (pa_cons (pe_call G_l_weight hr rfl T.g_l_weight T.F_l_weight.kp T.b_l_weight .nil pass0 (pa_cons (pv 4) (pa_cons (pv 5) pa_nil))) pa_nil)))))))))))), ?_⟩
    obtain ⟨dx, lt, ln, ob, no⟩ := F.obj
    have hin : InH S (j : Int) := ⟨by omega, by omega⟩
    have hio : InH S (o : Int) := ⟨by omega, by omega⟩
    refine ⟨_, rfl, p, dx, _, rfl, ob, no _ (by decide +kernel) (by decide +kernel) (by decide +kernel), _, rfl, H0, p, S, (j : Int), rfl, F, nat_log (by omega), fun j2 t ej ht H1 H2 L as s1 hL told F2 => ?_, fun z => absurd hin z⟩
    have ej2 : j2 = j := by omega
    subst ej2
    have toldH := told.same F2.same
    -- what is put
    have fin : ∀ {H' : Hp} {S' : Fs} {H1' : Hp}, Fd T.c_Node T.c_Field H1' H' p S' → Same H0 H1' → S'.ts.length = S.ts.length → S'.ns.length ≤ S.ns.length + 1 → Q .non H' := fun F' s e1 e2 => k _ _ (F'.forget s) e1 e2
    refine ⟨_, rfl, rfl, _, rfl, t_2 (fun c8 => ?_) (fun c8 => iteF ?_)⟩
    · -- taken, if there is one
      refine ⟨_, rfl, Nat.zero_le _, fun e0 he0 => ⟨_, _, (toldH.same (same_new he0)).dp, Dp.none upd_same, rows_shaped _, rfl, ?_⟩⟩
      rw [eqv_rows_nil]
      have F3 := F2.later (same_new (o := .lst []) he0)
      generalize upd H2 e0 (.lst []) = H3 at F3 ⊢
      refine ⟨_, rfl, ?_⟩
      obtain ⟨dx, lt, ln, ob, no⟩ := F3.obj
      cases t with
      | nil =>
        refine iteF ?_
        have hk : kind = 8 := V.int.inj c8
        refine ⟨_, rfl, rfl, _, rfl, t_no (by rw [hk]; decide) (iteF ?_)⟩
        refine ⟨_, rfl, rfl, _, rfl, t_no (by rw [hk]; decide) (iteF ?_)⟩
        exact ⟨_, rfl, p, dx, _, rfl, ob, no _ (by decide +kernel) (by decide +kernel) (by decide +kernel), _, rfl, _, rfl, _, rfl, _, _, rfl, fun we => ⟨H1, p, S, (j2 : Int), we, rfl, F3, hns, fun j3 ej hj3 H4 b hb F4 => fin F4 s1 (by show (S.ts.set j3 _).length = _; rw [List.length_set]) (by show (S.ns ++ [_]).length ≤ _; rw [List.length_append]; exact Nat.le_refl _), fun z => absurd hin z⟩⟩
      | nd n l r =>
        refine iteT ?_
        refine ⟨_, rfl, p, dx, _, rfl, ob, no _ (by decide +kernel) (by decide +kernel) (by decide +kernel), _, rfl, H1, p, S, (j2 : Int), rfl, F3, nat_log (by omega), fun j3 n3 l3 r3 ej hn H4 q hq F4 => ?_, fun j3 ej h => ?_, fun z => absurd hin z⟩
        · exact fin F4 (fun b o e => same_new hq _ _ (s1 _ _ e)) (by show (S.ts.set j3 _).length = _; rw [List.length_set]) (by show (S.ns.set _ _).length ≤ _; rw [List.length_set]; exact Nat.le_succ _)
        · have ej3 : j3 = j2 := by omega
          rw [ej3, ht] at h
          cases h
    -- sunk
    refine ⟨_, rfl, rfl, _, rfl, t_2 (fun c7 => ?_) (fun c7 => iteF ?_)⟩
    · refine ⟨_, rfl, Nat.zero_le _, fun e0 he0 => ⟨_, _, (toldH.same (same_new he0)).dp, Dp.none upd_same, rows_shaped _, rfl, ?_⟩⟩
      rw [eqv_rows_nil]
      have F3 := F2.later (same_new (o := .lst []) he0)
      generalize upd H2 e0 (.lst []) = H3 at F3 ⊢
      refine ⟨_, rfl, ?_⟩
      obtain ⟨dx, lt, ln, ob, no⟩ := F3.obj
      have told3 := told.same F3.same
      by_cases ct : subs t = []
      · rw [decide_eq_true ct]
        refine iteF ?_
        have hk : kind = 7 := V.int.inj c7
        refine ⟨_, rfl, rfl, _, rfl, t_no (by rw [hk]; decide) (iteF ?_)⟩
        exact ⟨_, rfl, p, dx, _, rfl, ob, no _ (by decide +kernel) (by decide +kernel) (by decide +kernel), _, rfl, _, rfl, _, rfl, _, _, rfl, fun we => ⟨H1, p, S, (j2 : Int), we, rfl, F3, hns, fun j3 ej hj3 H4 b hb F4 => fin F4 s1 (by show (S.ts.set j3 _).length = _; rw [List.length_set]) (by show (S.ns ++ [_]).length ≤ _; rw [List.length_append]; exact Nat.le_refl _), fun z => absurd hin z⟩⟩
      · rw [decide_eq_false ct]
        refine iteT ?_
        have lpos : 0 < as.length := by
          rw [told.len]
          exact List.length_pos_iff.mpr ct
        have lsz : as.length ≤ 1000 := by
          rw [told.len, ← List.length_map (·.1), subs_nodes, size_nodes]
          have := F.1.size ht
          have := F.1.len
          omega
        have eL : ((as.map V.ref).length : Int) = (as.length : Int) := by rw [List.length_map]
        have hpl : (0 : Int) < ((as.map V.ref).length : Int) := by omega
        obtain ⟨m, hm, hml⟩ : ∃ m : Nat, more % ((as.map V.ref).length : Int) = (m : Int) ∧ m < as.length := by
          have h0 : 0 ≤ more % ((as.map V.ref).length : Int) := Int.emod_nonneg _ (by omega)
          have h1 : more % ((as.map V.ref).length : Int) < ((as.map V.ref).length : Int) := Int.emod_lt_of_pos _ hpl
          exact ⟨(more % ((as.map V.ref).length : Int)).toNat, by omega, by omega⟩
        obtain ⟨am, ham⟩ : ∃ am, as[m]? = some am := ⟨as[m], List.getElem?_eq_getElem hml⟩
        obtain ⟨⟨n, l, r⟩, hrow, htup⟩ := told3.row m am ham
        have hd : n.dat ∈ dats t := by
          unfold dats
          rw [← subs_nodes]
          exact List.mem_map_of_mem (List.mem_map_of_mem (f := fun x : Nd × Tre × Tre => x.1) (get_mem hrow))
        have hni : n.i < 1000 := by
          have h1 := (F.1.home j2 t ht n.dat hd).2
          have h2 := get_len h1
          have h3 := F.1.len
          have h4 : n.dat.i = n.i := rfl
          omega
        refine ⟨_, rfl, _, rfl, _, rfl, L, _, rfl, .inl (SqL.of told3.lst), _, _, rfl, rfl, hpl, L, _, _, _, rfl, rfl, SqL.of told3.lst, at_of (j := m) hm (by rw [List.getElem?_map, ham]; rfl), ?_⟩
        refine ⟨_, rfl, p, dx, _, rfl, ob, no _ (by decide +kernel) (by decide +kernel) (by decide +kernel), _, rfl, am, _, 0, _, rfl, rfl, SqT.of htup, rfl, _, rfl, am, _, 1, _, rfl, rfl, SqT.of htup, rfl, _, rfl, _, rfl, L, _, rfl, .inl (SqL.of told3.lst), _, _, rfl, rfl, ⟨hpl, by omega⟩, _, rfl, rfl, _, _, rfl, rfl, H1, p, S, (n.i : Int), _, rfl, F3, nat_log (by omega), fun i3 j3 n3 l3 r3 fs ei hp hn3 hle H4 F4 => ?_, fun i3 j3 s3 d3 ei h1 h2 h3 hlt => ?_, fun hg => ?_⟩
        · exact fin F4 s1 (by show (S.ts.set j3 _).length = _; rw [List.length_set]) (Nat.le_succ _)
        · have e3 := (F.1.one h1 ht h2 hd (by rw [h3]; show i3 = n.i; omega)).2.2
          have e4 : d3.w = n.w := by rw [e3]; rfl
          have : 0 ≤ more / ((as.map V.ref).length : Int) % 40 := Int.emod_nonneg _ (by decide)
          have hlt2 : d3.w < n.w - more / ((as.map V.ref).length : Int) % 40 := hlt
          omega
        · exact absurd (F.1.home j2 t ht n.dat hd).2 (hg n.i n.dat.a rfl)
    -- poured
    obtain ⟨dx, lt, ln, ob, no⟩ := F2.obj
    refine ⟨_, rfl, rfl, _, rfl, t_2 (fun c6 => ?_) (fun c6 => iteF ?_)⟩
    · refine ⟨_, rfl, _, rfl, rfl, rfl, _, rfl, t_2 (fun c5 => ?_) (fun c5 => ?_)⟩
      · refine ⟨_, rfl, p, dx, _, rfl, ob, no _ (by decide +kernel) (by decide +kernel) (by decide +kernel), _, rfl, _, rfl, H1, p, S, (j2 : Int), (o : Int), rfl, F2, nat_log (by omega), nat_log (by omega), fun j3 o3 ej eo hne _ _ H4 F4 => ?_, fun z => ?_, fun _ z => absurd (by omega) hjo⟩
        · exact fin F4 s1 (by show ((S.ts.set o3 _).set j3 _).length = _; rw [List.length_set, List.length_set]) (Nat.le_succ _)
        · rcases z with z | z
          · exact absurd hin z
          · exact absurd hio z
      · exact ⟨_, rfl, p, dx, _, rfl, ob, no _ (by decide +kernel) (by decide +kernel) (by decide +kernel), _, rfl, _, rfl, _, rfl, _, _, rfl, fun we => ⟨H1, p, S, (j2 : Int), we, rfl, F2, hns, fun j3 ej hj3 H4 b hb F4 => fin F4 s1 (by show (S.ts.set j3 _).length = _; rw [List.length_set]) (by show (S.ns ++ [_]).length ≤ _; rw [List.length_append]; exact Nat.le_refl _), fun z => absurd hin z⟩⟩
    · exact ⟨_, rfl, p, dx, _, rfl, ob, no _ (by decide +kernel) (by decide +kernel) (by decide +kernel), _, rfl, _, rfl, _, rfl, _, _, rfl, fun we => ⟨H1, p, S, (j2 : Int), we, rfl, F2, hns, fun j3 ej hj3 H4 b hb F4 => fin F4 s1 (by show (S.ts.set j3 _).length = _; rw [List.length_set]) (by show (S.ns ++ [_]).length ≤ _; rw [List.length_append]; exact Nat.le_refl _), fun z => absurd hin z⟩⟩
end
/-! ### what is due -/
/-- what is known of the heap H2, the field's own objects aside -/
def keepH (H0 H H2 : Hp) : Hp := fun b => if ((H0 b).isNone && (H b).isSome) = true then none else H2 b
theorem keepH_old {H0 H H2 : Hp} {b : Addr} {o : HO} (h : H0 b = some o) : keepH H0 H H2 b = H2 b := by
  unfold keepH
  rw [h]
  rfl
theorem keepH_new {H0 H H2 : Hp} {b : Addr} (h : H b = none) : keepH H0 H H2 b = H2 b := by
  unfold keepH
  rw [h]
  simp
theorem keepH_no {H0 H H2 : Hp} {b : Addr} {o : HO} (h0 : H0 b = none) (h : H b = some o) : keepH H0 H H2 b = none := by
  unfold keepH
  rw [h0, h]
  rfl
theorem Fd.dom {C D : Addr} {H0 H H2 : Hp} {p : Addr} {S : Fs} (F : Fd C D H0 H p S) (f : ∀ b o, H b = some o → H0 b = none → H2 b = some o) : Fd C D (keepH H0 H H2) H2 p S := by
  obtain ⟨G, dx, lt, ln, A⟩ := F
  refine ⟨G, dx, lt, ln, fun b o h => ?_, keepH_no A.p0 A.ob, keepH_no A.t0 A.lts, keepH_no A.n0 A.lns, f _ _ A.ob A.p0, f _ _ A.lts A.t0, f _ _ A.lns A.n0, A.ne, fun t ht => ⟨?_, fun b hb => ?_⟩⟩
  · unfold keepH at h
    split at h
    · cases h
    · exact h
  · obtain ⟨h1, h2⟩ := A.tr t ht
    -- the tree's objects stay
    have go : ∀ {s : Tre} {ab : V}, TAt C H s ab → (∀ b ∈ Tre.addrs s, H0 b = none) → TAt C H2 s ab := by
      intro s
      induction s with
      | nil => exact fun _ _ => trivial
      | nd n l r ihl ihr =>
        intro ab h g
        rw [addrs_nd] at g
        exact ⟨let ⟨dx, q⟩ := h.1; ⟨dx, f _ _ q (g _ List.mem_cons_self)⟩, ihl h.2.1 fun b hb => g b (List.mem_cons_of_mem _ (List.mem_append_left _ hb)), ihr h.2.2 fun b hb => g b (List.mem_cons_of_mem _ (List.mem_append_right _ hb))⟩
    exact go h1 h2
  · obtain ⟨h1, h2⟩ := A.tr t ht
    obtain ⟨dd, fs, e⟩ := h1.there b hb
    exact keepH_no (h2 b hb) e
theorem homed_sig (j : Nat) : ∀ t : Tre, (subs (homed j t)).map sig = (subs t).map sig ∧ thV (homed j t) = thV t
  | .nil => ⟨rfl, rfl⟩
  | .nd n l r => by
    obtain ⟨h1, h2⟩ := homed_sig j l
    obtain ⟨h3, h4⟩ := homed_sig j r
    refine ⟨?_, rfl⟩
    show sig ({ n with h := (j : Int) }, homed j l, homed j r) :: (subs (homed j l) ++ subs (homed j r)).map sig = sig (n, l, r) :: (subs l ++ subs r).map sig
    rw [List.map_append, List.map_append, h1, h3]
    unfold sig noteL
    simp only [h2, h4]
def sp_due (C D : Addr) : Sp := fun vs H Q _ => ∃ (H0 : Hp) (p HL N LR L1 L2 : Addr) (S : Fs) (kvs : List (Key × V)) (as1 as2 : List Addr) (t0 t1 : Tre) (j o : Nat) (c e : Int), vs = [.ref p, .ref HL, .ref N, .ref LR, .int c, .int e] ∧ Fd C D H0 H p S ∧
  H0 HL = some (.lst [.int (j : Int), .int (o : Int)]) ∧ H0 LR = some (.lst [.ref L1, .ref L2]) ∧ Told H0 L1 as1 t0 ∧ Told H0 L2 as2 t1 ∧ S.ts[j]? = some t0 ∧ S.ts[o]? = some t1 ∧ j ≠ o ∧ S.ts.length ≤ 1000 ∧ S.ns.length < 1000 ∧ NS H0 N kvs (subs t0 ++ subs t1) ∧
  ∀ H0' H' S' T' wk q kvs' R', Fd C D H0' H' p S' → S'.ts[j]? = some T' → S'.wk = ((wk : Nat) : Int) → NS H0' N kvs' (subs T' ++ R') → H0' q = some (.tup [thV T', .int (wk : Int)]) → (∀ b u, H0 b = some u → b ≠ N → (∀ x, u ≠ .lst (noteL x)) → H0' b = some u) →
    (∃ u, S'.ts[o]? = some u ∧ ((c % 4 = 2 ∨ (t0 = .nil ∧ c % 4 ≠ 0)) → u = .nil) ∧ (¬ (c % 4 = 2 ∨ (t0 = .nil ∧ c % 4 ≠ 0)) → u = t1)) → Q (.ref q) H'
section
variable {P : Program} {w : World} {K : PySem.W.Frag} {mg : Str → Option Value} {base : Heap}
theorem ok_due (T : Txt K mg) : FnOk P w K mg base CX0 28 T.a_l_due T.d_l_due ["_law_field", "_law_heaps", "_law_notes", "_law_rows", "_law_cell_here", "_law_more"] (sp_due T.c_Node T.c_Field) := by
  have G_l_top : FnOk P w K mg base CX0 27 _ _ _ _ := (ok_top11 T).mono (by decide)
  have G_l_weight : FnOk P w K mg base CX0 27 _ _ _ _ := (ok_weight10 T).mono (by decide)
  have G_l_joined : FnOk P w K mg base CX0 27 _ _ _ _ := (ok_joined11 T).mono (by decide)
  have G_l_sunk : FnOk P w K mg base CX0 27 _ _ _ _ := (ok_sunk11 T).mono (by decide)
  have G_Field_put : FnOk P w K mg base (L2.CX P w) 27 _ _ _ _ := (ok_put T).mono (by decide)
  have G_Field_take : FnOk P w K mg base (L2.CX P w) 27 _ _ _ _ := (ok_take T).mono (by decide)
  have G_Field_pour : FnOk P w K mg base (L2.CX P w) 27 _ _ _ _ := (ok_pour T).mono (by decide)
  have G_Field_sink : FnOk P w K mg base (L2.CX P w) 27 _ _ _ _ := (ok_sink T).mono (by decide)
  refine T.F_l_due.ok sc_l_due (fun vs H Q E h => ?_) (fun cdv A outer s H vs Q E hr h => ?_)
  · obtain ⟨H0, p, HL, N, LR, L1, L2, S, kvs, as1, as2, t0, t1, j, o, c, e, rfl, _⟩ := h
    rfl
  · obtain ⟨H0, p, HL, N, LR, L1, L2, S, kvs, as1, as2, t0, t1, j, o, c, e, rfl, F, hHL, hLR, told1, told2, hj, ho, hjo, hts, hns, ns, k⟩ := h
    refine ⟨_, (pss_cons (ps_set (i := 6) sc_l_due.nd rfl (.inl rfl) (pe_call G_l_top hr rfl T.g_l_top T.F_l_top.kp T.b_l_top .nil pass0 (pa_cons (pe_ix ix_list (pv 3) pe_int (fun _ _ => rfl)) pa_nil)))
  (pss_cons (ps_if (pt_cmpR op_eq (pe_op (op_modK 4 (by decide)) (pv 4) pe_int) pe_int (nomark _))
  (pss_cons (ps_set (i := 7) sc_l_due.nd rfl (.inl rfl) (pe_call G_l_weight hr rfl T.g_l_weight T.F_l_weight.kp T.b_l_weight .nil pass0 (pa_cons (pv 5) (pa_cons (pe_op (op_modK 50 (by decide)) (pv 5) pe_int) pa_nil))))
  (pss_cons (ps_set (i := 8) sc_l_due.nd rfl (.inl rfl) (pe_meth (pv 0) T.cl_Field T.m_Field_put G_Field_put hr T.b_Field_put .nil passL (pa_cons (pe_ix ix_list (pv 1) pe_int (fun _ _ => rfl)) (pa_cons (pv 7) pa_nil))))
  (pss_cons (ps_dput (hu_of hr) (pv 2) (pv 8) (pe_lst (pa_cons (pv 7) (pa_cons pe_non (pa_cons pe_non (pa_cons pe_int pa_nil))))) rfl)
  (pss_one (ps_ret (pe_call G_l_joined hr rfl T.g_l_joined T.F_l_joined.kp T.b_l_joined .nil pass0 (pa_cons (pv 2) (pa_cons (pv 6) (pa_cons (pv 8) pa_nil)))))))))
  pss_nil)
  (C8.pss_cut (ps_if (PW.pt (pw_and (pt_cmpR op_eq (pe_op (op_modK 4 (by decide)) (pv 4) pe_int) pe_int (nomark _)) (pw_and1 (pt_cmpR op_notN (pv 6) pe_non (nomark _)))))
  (pss_cons (ps_expr (pe_meth (pv 0) T.cl_Field T.m_Field_take G_Field_take hr T.b_Field_take .nil passL (pa_cons (pe_ix ix_list (pv 1) pe_int (fun _ _ => rfl)) pa_nil)))
  (pss_one (ps_ret (pe_call G_l_joined hr rfl T.g_l_joined T.F_l_joined.kp T.b_l_joined .nil pass0 (pa_cons (pv 2) (pa_cons (pe_ix ix_list (pe_dget (hu_of hr) (pv 2) (pv 6) (fun _ _ => rfl)) pe_int (fun _ _ => rfl)) (pa_cons (pe_ix ix_list (pe_dget (hu_of hr) (pv 2) (pv 6) (fun _ _ => rfl)) pe_int (fun _ _ => rfl)) pa_nil)))))))
  pss_nil)
  (pss_cons (ps_if (PW.pt (pw_or (pt_cmpR op_eq (pe_op (op_modK 4 (by decide)) (pv 4) pe_int) pe_int (nomark _)) (pw_or1 (pt_cmpR op_isN (pv 6) pe_non (nomark _)))))
  (pss_cons (ps_expr (pe_meth (pv 0) T.cl_Field T.m_Field_pour G_Field_pour hr T.b_Field_pour .nil passL (pa_cons (pe_ix ix_list (pv 1) pe_int (fun _ _ => rfl)) (pa_cons (pe_ix ix_list (pv 1) pe_int (fun _ _ => rfl)) pa_nil))))
  (pss_one (ps_ret (pe_call G_l_joined hr rfl T.g_l_joined T.F_l_joined.kp T.b_l_joined .nil pass0 (pa_cons (pv 2) (pa_cons (pv 6) (pa_cons (pe_call G_l_top hr rfl T.g_l_top T.F_l_top.kp T.b_l_top .nil pass0 (pa_cons (pe_ix ix_list (pv 3) pe_int (fun _ _ => rfl)) pa_nil)) pa_nil)))))))
  pss_nil)
  (pss_cons (ps_set (i := 8) sc_l_due.nd rfl (.inl rfl) (pe_ix ix_tup (pe_ix ix_list (pe_ix ix_list (pv 3) pe_int (fun _ _ => rfl)) (pe_op op_mod (pv 5) (pe_callB call_len_seq (by rfl) T.z_len PySem.boot_len (pa_cons (pe_ix ix_list (pv 3) pe_int (fun _ _ => rfl)) pa_nil))) (fun _ _ => rfl)) pe_int (fun _ _ => rfl)))
  (pss_cons (ps_set (i := 9) sc_l_due.nd rfl (.inl rfl) (pe_op op_fdiv (pv 5) (pe_callB call_len_seq (by rfl) T.z_len PySem.boot_len (pa_cons (pe_ix ix_list (pv 3) pe_int (fun _ _ => rfl)) pa_nil))))
  (pss_cons (ps_set (i := 7) sc_l_due.nd rfl (.inl rfl) (pe_op op_sub (pe_ix ix_list (pe_dget (hu_of hr) (pv 2) (pv 8) (fun _ _ => rfl)) pe_int (fun _ _ => rfl)) (pe_op op_mul (pe_op (op_modK 60 (by decide)) (pe_op (op_fdivK 2 ⟨by decide, by decide⟩) (pv 9) pe_int) pe_int) (pe_op op_add pe_int (pe_op op_mul (pe_op (op_modK 2 (by decide)) (pv 9) pe_int) pe_int)))))
  (pss_cons (ps_expr (pe_meth (pv 0) T.cl_Field T.m_Field_sink G_Field_sink hr T.b_Field_sink .nil passL (pa_cons (pv 8) (pa_cons (pv 7) pa_nil))))
  (pss_one (ps_ret (pe_call G_l_sunk hr rfl T.g_l_sunk T.F_l_sunk.kp T.b_l_sunk .nil pass0 (pa_cons (pv 2) (pa_cons (pv 6) (pa_cons (pv 8) (pa_cons (pv 7) pa_nil))))))))))))))), ?_⟩
    have G := F.1
    have hjl := get_len hj
    have hol := get_len ho
    have hin : InH S (j : Int) := ⟨by omega, by omega⟩
    have hio : InH S (o : Int) := ⟨by omega, by omega⟩
    -- the end
    have fin : ∀ {H0c Hc H3 : Hp} {S' : Fs} {T' : Tre} {wk : Nat} {q : Addr} {kvs' : List (Key × V)} {R' Rc : List (Nd × Tre × Tre)}, Fd T.c_Node T.c_Field H0c Hc p S' → (∀ b u, H0 b = some u → b ≠ N → (∀ x, u ≠ .lst (noteL x)) → H0c b = some u) → FrN kvs' Hc H3 → NS H3 N kvs' (subs T' ++ R') → NS H0c N kvs' Rc → Hc q = none → H3 q = some (.tup [thV T', .int (wk : Int)]) →
        S'.ts[j]? = some T' → S'.wk = ((wk : Nat) : Int) → (∃ u, S'.ts[o]? = some u ∧ ((c % 4 = 2 ∨ (t0 = .nil ∧ c % 4 ≠ 0)) → u = .nil) ∧ (¬ (c % 4 = 2 ∨ (t0 = .nil ∧ c % 4 ≠ 0)) → u = t1)) → Q (.ref q) H3 := by
      intro H0c Hc H3 S' T' wk q kvs' R' Rc Fc fc f3 ns3 nsc hq hkq e1 e2 e3
      have Fd3 : Fd T.c_Node T.c_Field (keepH H0c Hc H3) H3 p S' := Fc.dom fun b u hb h0 => f3 b u hb fun kk ek => by
        obtain ⟨x, _, _, h2⟩ := nsc.live ek
        rw [h0] at h2
        cases h2
      refine k _ H3 S' T' wk q kvs' R' Fd3 e1 e2 ?_ (by rw [keepH_new hq]; exact hkq) (fun b u hb hbN hu => ?_) e3
      · refine ⟨by rw [keepH_old nsc.d]; exact ns3.d, ns3.len, fun x hx => ?_, ns3.all, ns3.inj, ns3.nd, ns3.sz⟩
        obtain ⟨a, h1, h2⟩ := ns3.at_ x hx
        obtain ⟨y, _, _, h4⟩ := nsc.live h1
        exact ⟨a, h1, by rw [keepH_old h4]; exact h2⟩
      · have h1 := fc b u hb hbN hu
        rw [keepH_old h1]
        refine f3 b u (Fc.same _ _ h1) fun kk ek => ?_
        obtain ⟨x, _, _, h2⟩ := nsc.live ek
        rw [h1] at h2
        exact hu x (Option.some.inj h2)
    -- the top
    refine ⟨_, rfl, LR, [.ref L1, .ref L2], 0, .ref L1, rfl, rfl, SqL.of (F.same _ _ hLR), rfl, L1, as1, t0, rfl, told1.same F.same, fun H1 s1 => ?_⟩
    have F1 := F.later s1
    obtain ⟨dx, lt, ln, ob, no⟩ := F1.obj
    -- put
    refine ⟨_, rfl, _, rfl, rfl, rfl, _, rfl, t_2 (fun c0 => ?_) (fun c0 => ?_)⟩
    · refine ⟨_, rfl, _, rfl, _, rfl, rfl, _, _, rfl, fun we => ?_⟩
      refine ⟨_, rfl, p, dx, _, rfl, ob, no _ (by decide +kernel) (by decide +kernel) (by decide +kernel), _, rfl, HL, [.int (j : Int), .int (o : Int)], 0, .int (j : Int), rfl, rfl, SqL.of (F1.same _ _ hHL), rfl, _, rfl, H0, p, S, (j : Int), we, rfl, F1, hns, fun j2 ej hj2 H2 b hb F2 => ?_, fun z => absurd hin z⟩
      have ej2 : j2 = j := by omega
      subst ej2
      refine ⟨_, rfl, by show 4 ≤ sizeLine; decide, fun b2 hb2 => ?_⟩
      have F3 := F2.wr (q := b2) (o := .lst [.int we, .non, .non, .int 1]) (.inr hb2)
      have nb2 := F2.same.free hb2
      have hdN : (upd H0 b2 (.lst [.int we, .non, .non, .int 1])) N = some (.dK kvs) := same_new nb2 _ _ ns.d
      have F4 := F3.wr (q := N) (o := .dK (putK kvs (keyI S.ns.length) (.ref b2))) (.inl (by rw [hdN]; intro z; cases z))
      refine ⟨_, rfl, _, rfl, N, _, rfl, DPut.k (k := keyI S.ns.length) (F3.same _ _ hdN) ?_, ?_⟩
      · have h1 := ns.len
        have h2 := ns.sz
        exact Nat.lt_of_le_of_lt (Nat.le_trans h1 h2) (by decide)
      have hids : S.ns.length ∉ (subs t0 ++ subs t1).map idR := fun hm => by
        rw [List.map_append] at hm
        have low : ∀ {jj : Nat} {tt : Tre}, S.ts[jj]? = some tt → S.ns.length ∉ (subs tt).map idR := fun {jj tt} hh hm2 => by
          have e1 : (subs tt).map idR = (dats tt).map Dat.i := by
            unfold dats
            rw [List.map_map, ← subs_nodes, List.map_map]
            rfl
          rw [e1] at hm2
          obtain ⟨d, hd, hdi⟩ := List.mem_map.mp hm2
          have h1 := get_len (G.home jj tt hh d hd).2
          omega
        rcases List.mem_append.mp hm with z | z
        · exact low hj z
        · exact low ho z
      have szz : (subs t0 ++ subs t1).length ≤ 1999 := by
        rw [List.length_append, ← List.length_map (as := subs t0) (·.1), ← List.length_map (as := subs t1) (·.1), subs_nodes, subs_nodes, size_nodes, size_nodes]
        have h1 := G.size hj
        have h2 := G.size ho
        have := G.len
        omega
      have nsP : NS (upd (upd H0 b2 (.lst [.int we, .non, .non, .int 1])) N (.dK (putK kvs (keyI S.ns.length) (.ref b2)))) N (putK kvs (keyI S.ns.length) (.ref b2)) (subs t0 ++ subs t1 ++ [((⟨b, S.ns.length, we, (j2 : Int), 1⟩ : Nd), Tre.nil, Tre.nil)]) := ns.put (x := ((⟨b, S.ns.length, we, (j2 : Int), 1⟩ : Nd), Tre.nil, Tre.nil)) hids nb2 (by omega)
      have nsQ : NS (upd (upd H0 b2 (.lst [.int we, .non, .non, .int 1])) N (.dK (putK kvs (keyI S.ns.length) (.ref b2)))) N (putK kvs (keyI S.ns.length) (.ref b2)) (subs t0 ++ subs (leaf b S.ns.length we j2) ++ subs t1) := by
        refine nsP.perm ?_
        rw [List.append_assoc, List.append_assoc]
        exact List.Perm.append_left _ List.perm_append_comm
      have e0 : S.put j2 b we = ⟨S.ts.set j2 (join t0 (leaf b S.ns.length we j2)).1, S.ns ++ [.ref b], (join t0 (leaf b S.ns.length we j2)).2⟩ := by
        unfold Fs.put
        rw [getD_of hj]
      rw [e0] at F4
      refine ⟨_, rfl, _, rfl, _, rfl, N, _, subs t1, t0, leaf b S.ns.length we j2, rfl, nsQ.same F4.same, nsQ.sz, fun H5 q ns5 f5 hq hkq => ?_⟩
      refine fin F4 (fun b' u hb hbN _ => ?_) f5 ns5 nsQ hq hkq ?_ rfl ⟨t1, ?_, fun z => ?_, fun _ => rfl⟩
      · rw [upd_ne hbN, upd_ne (ne_of_none hb nb2)]
        exact hb
      · show (S.ts.set j2 _)[j2]? = _
        rw [List.getElem?_set_self hjl]
      · show (S.ts.set j2 _)[o]? = _
        rw [List.getElem?_set_ne hjo]
        exact ho
      · have hc := V.int.inj c0
        exfalso
        rcases z with z | z
        · omega
        · exact z.2 hc
    have hc0 : ¬ c % 4 = 0 := fun z => c0 (by rw [z])
    -- taken
    refine ⟨fun (σ : List (Option V)) (H' : Hp) => σ = [some (V.ref p), some (V.ref HL), some (V.ref N), some (V.ref LR), some (V.int c), some (V.int e), some (thV t0), none, none, none] ∧ H' = H1, ?_, ?_⟩
    · refine ⟨_, rfl, _, rfl, rfl, rfl, _, rfl, t_2 (fun c1 => ?_) (fun c1 => iteF ⟨rfl, rfl⟩)⟩
      refine ⟨_, rfl, rfl, _, rfl, ?_⟩
      cases t0 with
      | nil => exact iteF ⟨rfl, rfl⟩
      | nd n l r =>
      refine iteT ?_
      refine ⟨_, rfl, p, dx, _, rfl, ob, no _ (by decide +kernel) (by decide +kernel) (by decide +kernel), _, rfl, HL, [.int (j : Int), .int (o : Int)], 0, .int (j : Int), rfl, rfl, SqL.of (F1.same _ _ hHL), rfl, H0, p, S, (j : Int), rfl, F1, nat_log (by omega), fun j2 n2 l2 r2 ej hn2 H2 q0 hq0 F2 => ?_, fun j2 ej hn2 => ?_, fun z => absurd hin z⟩
      rotate_left
      · have ej2 : j2 = j := by omega
        rw [ej2, hj] at hn2
        cases hn2
      have ej2 : j2 = j := by omega
      subst ej2
      rw [hj] at hn2
      cases hn2
      have s0 : Same H0 (upd H0 q0 (.tup [.int n.w, .int (n.i : Int)])) := same_new hq0
      generalize upd H0 q0 (.tup [.int n.w, .int (n.i : Int)]) = H0q at F2 s0
      have nsq := ns.same s0
      have ns2 := nsq.same F2.same
      obtain ⟨a, hva, hga, ha⟩ := ns2.get (x := (n, l, r)) List.mem_cons_self
      have nsJ : NS H2 N kvs (subs l ++ subs r ++ ((n, l, r) :: subs t1)) := by
        refine ns2.perm ?_
        rw [subs_nd, List.cons_append]
        exact List.perm_middle.symm
      refine ⟨_, rfl, _, rfl, _, rfl, N, .ref a, rfl, hga, a, _, 1, thV l, rfl, rfl, SqL.of ha, rfl, _, rfl, _, rfl, N, .ref a, rfl, hga, a, _, 2, thV r, rfl, rfl, SqL.of ha, rfl, N, kvs, (n, l, r) :: subs t1, l, r, rfl, nsJ, nsJ.sz, fun H3 q ns3 f3 hq hkq => ?_⟩
      refine fin F2 (fun b u hb _ _ => s0 _ _ hb) f3 ns3 nsq hq hkq ?_ rfl ⟨t1, ?_, fun z => ?_, fun _ => rfl⟩
      · show (S.ts.set j2 _)[j2]? = _
        rw [List.getElem?_set_self hjl]
      · show (S.ts.set j2 _)[o]? = _
        rw [List.getElem?_set_ne hjo]
        exact ho
      · have hc := V.int.inj c1
        exfalso
        rcases z with z | z
        · omega
        · cases z.1
    rintro σ H' ⟨rfl, rfl⟩
    -- poured
    refine ⟨_, rfl, _, rfl, rfl, rfl, _, rfl, t_2 (fun c2 => iteT ?_) (fun c2 => ?_)⟩
    · have HC : c % 4 = 2 ∨ (t0 = .nil ∧ c % 4 ≠ 0) := .inl (V.int.inj c2)
      refine ⟨_, rfl, p, dx, _, rfl, ob, no _ (by decide +kernel) (by decide +kernel) (by decide +kernel), _, rfl, HL, [.int (j : Int), .int (o : Int)], 0, .int (j : Int), rfl, rfl, SqL.of (F1.same _ _ hHL), rfl, _, rfl, HL, [.int (j : Int), .int (o : Int)], 1, .int (o : Int), rfl, rfl, SqL.of (F1.same _ _ hHL), rfl, H0, p, S, (j : Int), (o : Int), rfl, F1, nat_log (by omega), nat_log (by omega), fun j2 o2 ej eo hne2 hj2 ho2 H2 F2 => ?_, fun z => ?_, fun _ z => absurd (by omega) hjo⟩
      rotate_left
      · rcases z with z | z
        · exact absurd hin z
        · exact absurd hio z
      have ej2 : j2 = j := by omega
      subst ej2
      have eo2 : o2 = o := by omega
      subst eo2
      refine ⟨_, rfl, _, rfl, _, rfl, LR, [.ref L1, .ref L2], 1, .ref L2, rfl, rfl, SqL.of (F2.same _ _ hLR), rfl, L2, as2, t1, rfl, told2.same F2.same, fun H3 s3 => ?_⟩
      have F3 := F2.later s3
      have nsJ : NS H0 N kvs (subs t0 ++ subs (homed j2 t1) ++ []) := by
        refine ns.like ?_
        rw [List.append_nil, List.map_append, List.map_append, (homed_sig j2 t1).1]
      have e0 : S.pour j2 o2 = ⟨(S.ts.set o2 .nil).set j2 (join t0 (homed j2 t1)).1, S.ns, (join t0 (homed j2 t1)).2⟩ := by
        unfold Fs.pour
        rw [getD_of hj, getD_of ho]
      rw [e0] at F3
      refine ⟨N, kvs, [], t0, homed j2 t1, by rw [(homed_sig j2 t1).2]; rfl, nsJ.same F3.same, nsJ.sz, fun H4 q ns4 f4 hq hkq => ?_⟩
      refine fin F3 (fun b u hb _ _ => hb) f4 ns4 ns hq hkq ?_ rfl ⟨.nil, ?_, fun _ => rfl, fun z => absurd HC z⟩
      · show ((S.ts.set o2 .nil).set j2 _)[j2]? = _
        rw [List.getElem?_set_self (by rw [List.length_set]; exact hjl)]
      · show ((S.ts.set o2 .nil).set j2 _)[o2]? = _
        rw [List.getElem?_set_ne hjo, List.getElem?_set_self hol]
    refine ⟨_, rfl, rfl, _, rfl, ?_⟩
    by_cases hnil : t0 = .nil
    · rw [decide_eq_true (by rw [hnil]; rfl)]
      refine iteT ?_
      have HC : c % 4 = 2 ∨ (t0 = .nil ∧ c % 4 ≠ 0) := .inr ⟨hnil, hc0⟩
      refine ⟨_, rfl, p, dx, _, rfl, ob, no _ (by decide +kernel) (by decide +kernel) (by decide +kernel), _, rfl, HL, [.int (j : Int), .int (o : Int)], 0, .int (j : Int), rfl, rfl, SqL.of (F1.same _ _ hHL), rfl, _, rfl, HL, [.int (j : Int), .int (o : Int)], 1, .int (o : Int), rfl, rfl, SqL.of (F1.same _ _ hHL), rfl, H0, p, S, (j : Int), (o : Int), rfl, F1, nat_log (by omega), nat_log (by omega), fun j2 o2 ej eo hne2 hj2 ho2 H2 F2 => ?_, fun z => ?_, fun _ z => absurd (by omega) hjo⟩
      rotate_left
      · rcases z with z | z
        · exact absurd hin z
        · exact absurd hio z
      have ej2 : j2 = j := by omega
      subst ej2
      have eo2 : o2 = o := by omega
      subst eo2
      refine ⟨_, rfl, _, rfl, _, rfl, LR, [.ref L1, .ref L2], 1, .ref L2, rfl, rfl, SqL.of (F2.same _ _ hLR), rfl, L2, as2, t1, rfl, told2.same F2.same, fun H3 s3 => ?_⟩
      have F3 := F2.later s3
      have nsJ : NS H0 N kvs (subs t0 ++ subs (homed j2 t1) ++ []) := by
        refine ns.like ?_
        rw [List.append_nil, List.map_append, List.map_append, (homed_sig j2 t1).1]
      have e0 : S.pour j2 o2 = ⟨(S.ts.set o2 .nil).set j2 (join t0 (homed j2 t1)).1, S.ns, (join t0 (homed j2 t1)).2⟩ := by
        unfold Fs.pour
        rw [getD_of hj, getD_of ho]
      rw [e0] at F3
      refine ⟨N, kvs, [], t0, homed j2 t1, by rw [(homed_sig j2 t1).2]; rfl, nsJ.same F3.same, nsJ.sz, fun H4 q ns4 f4 hq hkq => ?_⟩
      refine fin F3 (fun b u hb _ _ => hb) f4 ns4 ns hq hkq ?_ rfl ⟨.nil, ?_, fun _ => rfl, fun z => absurd HC z⟩
      · show ((S.ts.set o2 .nil).set j2 _)[j2]? = _
        rw [List.getElem?_set_self (by rw [List.length_set]; exact hjl)]
      · show ((S.ts.set o2 .nil).set j2 _)[o2]? = _
        rw [List.getElem?_set_ne hjo, List.getElem?_set_self hol]
    have hthV : ¬ thV t0 = .non := fun z => hnil (by cases t0 with
      | nil => rfl
      | nd => cases z)
    rw [decide_eq_false hthV]
    refine iteF ?_
    -- sunk
    have hc2 : ¬ c % 4 = 2 := fun z => c2 (by rw [z])
    have T1 := told1.same F1.same
    have R1 := F1.same _ _ hLR
    have lpos : 0 < as1.length := by
      rw [told1.len]
      exact List.length_pos_iff.mpr fun z => hnil (subs_nil.mp z)
    have lsz : as1.length ≤ 1000 := by
      rw [told1.len, ← List.length_map (·.1), subs_nodes, size_nodes]
      have := G.size hj
      have := G.len
      omega
    have eL : ((as1.map V.ref).length : Int) = (as1.length : Int) := by rw [List.length_map]
    have hpl : (0 : Int) < ((as1.map V.ref).length : Int) := by omega
    obtain ⟨m, hm, hml⟩ : ∃ m : Nat, e % ((as1.map V.ref).length : Int) = (m : Int) ∧ m < as1.length := by
      have h0 : 0 ≤ e % ((as1.map V.ref).length : Int) := Int.emod_nonneg _ (by omega)
      have h1 : e % ((as1.map V.ref).length : Int) < ((as1.map V.ref).length : Int) := Int.emod_lt_of_pos _ hpl
      exact ⟨(e % ((as1.map V.ref).length : Int)).toNat, by omega, by omega⟩
    obtain ⟨am, ham⟩ : ∃ am, as1[m]? = some am := ⟨as1[m], List.getElem?_eq_getElem hml⟩
    obtain ⟨⟨n, l, r⟩, hrow, htup⟩ := T1.row m am ham
    have hxt : (n, l, r) ∈ subs t0 := get_mem hrow
    have hd : n.dat ∈ dats t0 := by
      unfold dats
      rw [← subs_nodes]
      exact List.mem_map_of_mem (List.mem_map_of_mem (f := fun x : Nd × Tre × Tre => x.1) hxt)
    have hni : n.i < 1000 := by
      have h1 := (G.home j t0 hj n.dat hd).2
      have h2 := get_len h1
      have h3 := G.len
      have h4 : n.dat.i = n.i := rfl
      omega
    refine ⟨_, rfl, LR, [.ref L1, .ref L2], 0, .ref L1, rfl, rfl, SqL.of R1, rfl, _, rfl, _, rfl, LR, [.ref L1, .ref L2], 0, .ref L1, rfl, rfl, SqL.of R1, rfl, L1, _, rfl, .inl (SqL.of T1.lst), _, _, rfl, rfl, hpl, L1, _, _, _, rfl, rfl, SqL.of T1.lst, at_of (j := m) hm (by rw [List.getElem?_map, ham]; rfl), am, _, 0, _, rfl, rfl, SqT.of htup, rfl, ?_⟩
    refine ⟨_, rfl, _, rfl, LR, [.ref L1, .ref L2], 0, .ref L1, rfl, rfl, SqL.of R1, rfl, L1, _, rfl, .inl (SqL.of T1.lst), _, _, rfl, rfl, ⟨hpl, by omega⟩, ?_⟩
    dsimp only
    generalize e / ((as1.map V.ref).length : Int) = by0
    have ns1 := ns.same F1.same
    obtain ⟨a, hva, hga, ha⟩ := ns1.get (x := (n, l, r)) (List.mem_append_left _ hxt)
    have b60 : 0 ≤ by0 / 2 % 60 ∧ by0 / 2 % 60 < 60 := ⟨Int.emod_nonneg _ (by decide), Int.emod_lt_of_pos _ (by decide)⟩
    have b2 : 0 ≤ by0 % 2 ∧ by0 % 2 < 2 := ⟨Int.emod_nonneg _ (by decide), Int.emod_lt_of_pos _ (by decide)⟩
    refine ⟨_, rfl, _, rfl, N, .ref a, rfl, hga, a, _, 0, .int n.w, rfl, rfl, SqL.of ha, rfl, _, rfl, _, rfl, rfl, _, rfl, rfl, _, rfl, _, rfl, rfl, _, _, rfl, rfl, .inr ⟨by decide, by decide⟩, _, _, rfl, rfl, _, _, rfl, rfl, .inl ⟨by omega, by omega⟩, _, _, rfl, rfl, ?_⟩
    have hnn : 0 ≤ by0 / 2 % 60 * (1 + by0 % 2 * 997) := Int.mul_nonneg b60.1 (by omega)
    obtain ⟨w2, hw2⟩ : ∃ w2 : Int, n.w - by0 / 2 % 60 * (1 + by0 % 2 * 997) = w2 := ⟨_, rfl⟩
    have hwle : w2 ≤ n.w := by omega
    dsimp only
    rw [hw2]
    refine ⟨_, rfl, p, dx, _, rfl, ob, no _ (by decide +kernel) (by decide +kernel) (by decide +kernel), _, rfl, _, rfl, H0, p, S, (n.i : Int), w2, rfl, F1, nat_log (by omega), fun i3 j3 n3 l3 r3 fs ei hp hn3 hle H4 F4 => ?_, fun i3 j3 s3 d3 ei h1 h2 h3 hlt => ?_, fun hg => ?_⟩
    · have nmem : n3.dat ∈ dats (plug (.nd n3 l3 r3) fs) := (plug_dats fs (.nd n3 l3 r3)).mem_iff.mpr (List.mem_append_left _ (by rw [dats_nd]; exact List.mem_cons_self))
      obtain ⟨ej, et, _⟩ := G.one hp hj nmem hd (by show n3.i = n.i; omega)
      subst ej
      subst et
      have en : n3.i = n.i := by omega
      have hR : ∀ x ∈ subs t1, ∀ i, kid x i → i ∉ (subs (plug (.nd n3 l3 r3) fs)).map idR := fun x hx i hk hm2 => by
        obtain ⟨y, hy, ey⟩ := kid_id hx hk
        have nd := ns.nd
        rw [List.map_append, List.nodup_append] at nd
        exact absurd rfl (nd.2.2 i hm2 i (List.mem_map.mpr ⟨y, hy, ey⟩))
      refine ⟨_, rfl, _, rfl, _, rfl, _, rfl, N, kvs, subs t1, n3, l3, r3, fs, w2, by rw [en]; rfl, ns.same F4.same, hR, fun H5 q ns5 f5 hq hkq => ?_⟩
      refine fin F4 (fun b u hb _ _ => hb) f5 ns5 ns hq hkq ?_ rfl ⟨t1, ?_, fun z => ?_, fun _ => rfl⟩
      · show (S.ts.set j3 _)[j3]? = _
        rw [List.getElem?_set_self hjl]
      · show (S.ts.set j3 _)[o]? = _
        rw [List.getElem?_set_ne hjo]
        exact ho
      · exfalso
        rcases z with z | z
        · exact hc2 z
        · exact hnil z.1
    · have e3 := (G.one h1 hj h2 hd (by rw [h3]; show i3 = n.i; omega)).2.2
      have e4 : d3.w = n.w := by rw [e3]; rfl
      omega
    · exact absurd (G.home j t0 hj n.dat hd).2 (hg n.i n.dat.a rfl)
end
theorem sorted_uniq : ∀ (l m : List Int), l.Perm m → l.Pairwise (· ≤ ·) → m.Pairwise (· ≤ ·) → l = m
  | [], m, p, _, _ => p.nil_eq
  | x :: l, [], p, _, _ => absurd p.length_eq (by simp)
  | x :: l, y :: m, p, h1, h2 => by
    rw [List.pairwise_cons] at h1 h2
    have e : x = y := by
      rcases List.mem_cons.mp (p.mem_iff.mp (List.mem_cons_self (a := x) (l := l))) with z | z
      · exact z
      · rcases List.mem_cons.mp (p.mem_iff.mpr (List.mem_cons_self (a := y) (l := m))) with q | q
        · exact q.symm
        · have a := h2.1 x z
          have b := h1.1 y q
          omega
    subst e
    rw [sorted_uniq l m p.cons_inv h1.2 h2.2]
def rgI (n : Nat) : List Int := (List.range n).map fun i : Nat => (i : Int)
theorem rgI_sorted (n : Nat) : (rgI n).Pairwise (· ≤ ·) := by
  unfold rgI
  rw [List.pairwise_map]
  exact List.pairwise_lt_range.imp fun h => by omega
theorem rgV_rgI (n : Nat) : rgV 0 (n : Int) = (rgI n).map V.int := by
  unfold rgV rgI
  rw [List.map_map]
  have e : ((n : Int) - 0).toNat = n := by omega
  rw [e]
  refine List.map_congr_left fun i _ => ?_
  show V.int (0 + (i : Int)) = V.int (i : Int)
  rw [Int.zero_add]
section
variable {P : Program} {w : World} {K : PySem.W.Frag} {mg : Str → Option Value} {base : Heap}
def Emp (i : Nat) : Fs := ⟨List.replicate i .nil, [], 0⟩
theorem emp_next (i : Nat) : (⟨(Emp i).ts ++ [Tre.nil], (Emp i).ns, (Emp i).wk⟩ : Fs) = Emp (i + 1) := by
  unfold Emp
  rw [List.replicate_succ']
theorem emp_len (i : Nat) : (Emp i).ts.length = i := List.length_replicate
theorem NS.empty {H : Hp} {N : Addr} (h : H N = some (.dK [])) : NS H N [] [] :=
  ⟨h, Nat.le_refl _, fun x hx => (by cases hx), fun q hq => (by cases hq), fun i j a e => absurd e (by rw [valV_nil]; intro z; cases z), List.nodup_nil, Nat.zero_le _⟩
/-- notes in what is known besides the field -/
theorem NS.keep {H0 H H2 : Hp} {N : Addr} {kvs kvs' : List (Key × V)} {R R' : List (Nd × Tre × Tre)} (ns : NS H0 N kvs R) (ns' : NS H2 N kvs' R') (h : ∀ kk a, valV kvs' kk = some (.ref a) → valV kvs kk = some (.ref a) ∨ H a = none) : NS (keepH H0 H H2) N kvs' R' := by
  refine ⟨by rw [keepH_old ns.d]; exact ns'.d, ns'.len, fun x hx => ?_, ns'.all, ns'.inj, ns'.nd, ns'.sz⟩
  obtain ⟨a, h1, h2⟩ := ns'.at_ x hx
  refine ⟨a, h1, ?_⟩
  rcases h _ _ h1 with e | e
  · obtain ⟨y, _, _, h4⟩ := ns.live e
    rw [keepH_old h4]
    exact h2
  · rw [keepH_new e]
    exact h2
def sp_law (K : PySem.W.Frag) : Sp := fun vs H Q _ => ∃ (a : Addr) (ns : List Int), vs = [.ref a] ∧ SqL K H a (ns.map V.int) ∧ ns.length ≤ 63 ∧ (∀ z ∈ ns, Builtin.Int.intBits z ≤ 1048576) ∧ ∀ H', Q (.bl true) H'
theorem ok_law (T : Txt K mg) : FnOk P w K mg base CX0 30 T.a_law T.d_law ["_law_script"] (sp_law K) := by
  have G_l_cell : FnOk P w K mg base CX0 29 _ _ _ _ := (ok_cell T).mono (by decide)
  have G_l_done : FnOk P w K mg base CX0 29 _ _ _ _ := (ok_done T).mono (by decide)
  have G_l_noted : FnOk P w K mg base CX0 29 _ _ _ _ := (ok_noted T).mono (by decide)
  have G_l_due : FnOk P w K mg base CX0 29 _ _ _ _ := (ok_due T).mono (by decide)
  have G_l_told : FnOk P w K mg base CX0 29 _ _ _ _ := (ok_told11 T).mono (by decide)
  have G_Field_init : FnOk P w K mg base CX0 28 _ _ _ _ := (ok_Field_init T).mono (by decide)
  have G_Field_heap : FnOk P w K mg base CX0 29 _ _ _ _ := (ok_Field_heap T).mono (by decide)
  have G_Field_work : FnOk P w K mg base CX0 29 _ _ _ _ := (ok_work T).mono (by decide)
  have G_Field_tree : FnOk P w K mg base (L2.CX P w) 29 _ _ _ _ := (ok_tree T).mono (by decide)
  refine T.F_law.ok sc_law (fun vs H Q E h => ?_) (fun cdv A outer s H vs Q E hr h => ?_)
  · obtain ⟨a, ns, rfl, _⟩ := h
    rfl
  · obtain ⟨a, ns, rfl, hS, hlen, hb, k⟩ := h
    refine ⟨_, (pss_cons (ps_set (i := 1) sc_law.nd rfl (.inr rfl) (pe_make0 T.mk_Field G_Field_init hr rfl T.gC_Field T.b_Field_init .nil pass0))
  (pss_cons (ps_set (i := 2) sc_law.nd rfl (.inl rfl) (pe_call G_l_cell hr rfl T.g_l_cell T.F_l_cell.kp T.b_l_cell .nil pass0 (pa_cons (pv 0) (pa_cons pe_int pa_nil))))
  (pss_cons (ps_set (i := 3) sc_law.nd rfl (.inl rfl) (pe_op (op_modK 5 (by decide)) (pe_call G_l_cell hr rfl T.g_l_cell T.F_l_cell.kp T.b_l_cell .nil pass0 (pa_cons (pv 0) (pa_cons pe_int pa_nil))) pe_int))
  (C8.pss_cut (ps_if (pt_cmpR op_eq (pe_op (op_modK 4 (by decide)) (pe_op (op_fdivK 5 ⟨by decide, by decide⟩) (pe_call G_l_cell hr rfl T.g_l_cell T.F_l_cell.kp T.b_l_cell .nil pass0 (pa_cons (pv 0) (pa_cons pe_int pa_nil))) pe_int) pe_int) pe_int (nomark _))
  (pss_one (ps_set (i := 3) sc_law.nd rfl (.inl rfl) (pe_op (op_modK 99 (by decide)) (pe_op (op_fdivK 20 ⟨by decide, by decide⟩) (pe_call G_l_cell hr rfl T.g_l_cell T.F_l_cell.kp T.b_l_cell .nil pass0 (pa_cons (pv 0) (pa_cons pe_int pa_nil))) pe_int) pe_int)))
  pss_nil)
  (pss_cons (ps_if (pt_cmpR (op_neD hr.units) (pe_lc (own := [("_law_k", 4)]) (by rfl) sc_law.nd (pi_range1 (by rfl) T.z_range (pa_cons (pe_op op_add (pv 3) pe_int) pa_nil)) (blkOk_by (N := N_law) (sc := defScope s_law) (by decide +kernel)) (fun _ _ _ _ _ => (pg_name (i := 4) sc_law.nd rfl (.inl rfl))) (fun _ _ _ _ _ => pts_nil) (fun _ _ _ _ _ => (pe_meth0 (pv 1) T.cl_Field T.m_Field_heap G_Field_heap hr T.b_Field_heap .nil pass0))) (pe_listRg rfl (by rfl) T.z_list (prg_1 (by rfl) T.z_range (pe_op op_add (pv 3) pe_int))) (nomark _))
  (pss_one (ps_ret pe_bl))
  pss_nil)
  (pss_cons (ps_set (i := 5) sc_law.nd rfl (.inl rfl) (pe_lst (pa_cons (pv 3) (pa_cons (pe_op op_add (pv 3) pe_int) pa_nil))))
  (C8.pss_cut (ps_if (pt_cmpR op_eq (pe_op (op_modK 2 (by decide)) (pe_op (op_fdivK 4 ⟨by decide, by decide⟩) (pv 2) pe_int) pe_int) pe_int (nomark _))
  (pss_one (ps_set (i := 5) sc_law.nd rfl (.inl rfl) (pe_lst (pa_cons (pe_op op_add (pv 3) pe_int) (pa_cons (pv 3) pa_nil)))))
  pss_nil)
  (pss_cons (ps_for PassesOwn.never rfl (pi_range2 (by rfl) T.z_range (pa_cons pe_int (pa_cons (pe_callB (call_min2 rfl) (by rfl) T.z_min (by decide +kernel) (pa_cons pe_int (pa_cons (pe_callB call_len_seq (by rfl) T.z_len PySem.boot_len (pa_cons (pv 0) pa_nil)) pa_nil))) pa_nil))) (pg_name (i := 4) sc_law.nd rfl (.inl rfl))
  (pss_cons (ps_set (i := 6) sc_law.nd rfl (.inl rfl) (pe_op (op_modK 2 (by decide)) (pe_ix ix_list (pv 0) (pv 4) (fun _ _ => rfl)) pe_int))
  (pss_one (ps_expr (pe_call G_l_done hr rfl T.g_l_done T.F_l_done.kp T.b_l_done .nil pass0 (pa_cons (pv 1) (pa_cons (pe_ix ix_list (pv 5) (pv 6) (fun _ _ => rfl)) (pa_cons (pe_ix ix_list (pv 5) (pe_op op_sub pe_int (pv 6)) (fun _ _ => rfl)) (pa_cons (pe_op (op_modK 9 (by decide)) (pe_op (op_fdivK 2 ⟨by decide, by decide⟩) (pe_ix ix_list (pv 0) (pv 4) (fun _ _ => rfl)) pe_int) pe_int) (pa_cons (pe_op (op_fdivK 18 ⟨by decide, by decide⟩) (pe_ix ix_list (pv 0) (pv 4) (fun _ _ => rfl)) pe_int) (pa_cons (pv 4) pa_nil)))))))))))
  (pss_cons (ps_set (i := 7) sc_law.nd rfl (.inl rfl) (pe_lst (pa_cons (pe_meth (pv 1) T.cl_Field T.m_Field_tree G_Field_tree hr T.b_Field_tree .nil passL (pa_cons (pe_ix ix_list (pv 5) pe_int (fun _ _ => rfl)) pa_nil)) (pa_cons (pe_meth (pv 1) T.cl_Field T.m_Field_tree G_Field_tree hr T.b_Field_tree .nil passL (pa_cons (pe_ix ix_list (pv 5) pe_int (fun _ _ => rfl)) pa_nil)) pa_nil))))
  (pss_cons (ps_set (i := 8) sc_law.nd rfl (.inl rfl) pe_dnewK)
  (pss_cons (ps_expr (pe_call G_l_noted hr rfl T.g_l_noted T.F_l_noted.kp T.b_l_noted .nil pass0 (pa_cons (pv 8) (pa_cons (pe_ix ix_list (pv 7) pe_int (fun _ _ => rfl)) pa_nil))))
  (pss_cons (ps_expr (pe_call G_l_noted hr rfl T.g_l_noted T.F_l_noted.kp T.b_l_noted .nil pass0 (pa_cons (pv 8) (pa_cons (pe_ix ix_list (pv 7) pe_int (fun _ _ => rfl)) pa_nil))))
  (pss_cons (ps_set (i := 9) sc_law.nd rfl (.inl rfl) (pe_call G_l_due hr rfl T.g_l_due T.F_l_due.kp T.b_l_due .nil pass0 (pa_cons (pv 1) (pa_cons (pv 5) (pa_cons (pv 8) (pa_cons (pv 7) (pa_cons (pv 2) (pa_cons (pe_call G_l_cell hr rfl T.g_l_cell T.F_l_cell.kp T.b_l_cell .nil pass0 (pa_cons (pv 0) (pa_cons pe_int pa_nil))) pa_nil))))))))
  (pss_cons (ps_if (PW.pt (pw_or (pt_cmpR op_ne (pe_meth0 (pv 1) T.cl_Field T.m_Field_work G_Field_work hr T.b_Field_work .nil pass0) (pe_ix ix_tup (pv 9) pe_int (fun _ _ => rfl)) (nomark _)) (pw_or1 (pt_cmpR (op_neD hr.units) (pe_meth (pv 1) T.cl_Field T.m_Field_tree G_Field_tree hr T.b_Field_tree .nil passL (pa_cons (pe_ix ix_list (pv 5) pe_int (fun _ _ => rfl)) pa_nil)) (pe_call G_l_told hr rfl T.g_l_told T.F_l_told.kp T.b_l_told .nil pass0 (pa_cons (pv 8) (pa_cons (pe_ix ix_tup (pv 9) pe_int (fun _ _ => rfl)) pa_nil))) (nomark _)))))
  (pss_one (ps_ret pe_bl))
  pss_nil)
  (pss_cons (ps_if (PW.pt (pw_or (pt_cmpR op_eq (pe_op (op_modK 4 (by decide)) (pv 2) pe_int) pe_int (nomark _)) (pw_or1 (PW.pt (pw_and (pt_cmpR (op_eqD hr.units) (pe_ix ix_list (pv 7) pe_int (fun _ _ => rfl)) (pe_lst pa_nil) (nomark _)) (pw_and1 (pt_cmpR op_ne (pe_op (op_modK 4 (by decide)) (pv 2) pe_int) pe_int (nomark _))))))))
  (pss_one (ps_ret (pe_cmpR (op_eqD hr.units) (pe_meth (pv 1) T.cl_Field T.m_Field_tree G_Field_tree hr T.b_Field_tree .nil passL (pa_cons (pe_ix ix_list (pv 5) pe_int (fun _ _ => rfl)) pa_nil)) (pe_lst pa_nil) (nomark _))))
  pss_nil)
  (pss_one (ps_ret (pe_cmpR (op_eqD hr.units) (pe_meth (pv 1) T.cl_Field T.m_Field_tree G_Field_tree hr T.b_Field_tree .nil passL (pa_cons (pe_ix ix_list (pv 5) pe_int (fun _ _ => rfl)) pa_nil)) (pe_ix ix_list (pv 7) pe_int (fun _ _ => rfl)) (nomark _))))))))))))))))))), ?_⟩
    intro p d hp hd hn
    refine ⟨H, p, d, rfl, upd_same, fun b o e => by rw [upd_ne (ne_of_none e hp), upd_ne (ne_of_none e hd)]; exact e, hp, fun H1 F1 => ⟨rfl, ?_⟩⟩
    have hS1 : SqL K H1 a (ns.map V.int) := sql_same hS F1.same
    refine ⟨_, rfl, a, ns, 0, rfl, hS1, ?_⟩
    refine ⟨_, rfl, a, ns, 2, rfl, hS1, _, rfl, rfl, ?_⟩
    obtain ⟨c, hc⟩ : ∃ c, ns.getD 0 0 = c := ⟨_, rfl⟩
    rw [hc]
    refine ⟨fun (σ : List (Option V)) (H' : Hp) => ∃ B : Nat, B ≤ 98 ∧ σ = [some (V.ref a), some (V.ref p), some (V.int c), some (V.int (B : Int)), none, none, none, none, none, none] ∧ H' = H1, ?_, ?_⟩
    · refine ⟨_, rfl, a, ns, 2, rfl, hS1, _, rfl, rfl, _, rfl, rfl, rfl, _, rfl, t_2 (fun c1 => ?_) (fun c1 => ?_)⟩
      · obtain ⟨B, hB, hB2⟩ : ∃ B : Nat, ns.getD 2 0 / 20 % 99 = (B : Int) ∧ B ≤ 98 := ⟨(ns.getD 2 0 / 20 % 99).toNat, by omega, by omega⟩
        refine ⟨_, rfl, a, ns, 2, rfl, hS1, _, rfl, rfl, _, rfl, rfl, B, hB2, ?_, rfl⟩
        rw [← hB]
        rfl
      · obtain ⟨B, hB, hB2⟩ : ∃ B : Nat, ns.getD 2 0 % 5 = (B : Int) ∧ B ≤ 98 := ⟨(ns.getD 2 0 % 5).toNat, by omega, by omega⟩
        refine ⟨B, hB2, ?_, rfl⟩
        rw [← hB]
        rfl
    rintro σ H1' ⟨B, hB, rfl, rfl⟩
    -- the heaps
    have eB : (B : Int) + 2 = ((B + 2 : Nat) : Int) := by omega
    refine ⟨_, rfl, _, _, rfl, rfl, ((B : Int) + 2), rfl, by omega, by omega, fun D hD => lc_range (lo := 0) (n := _) (fun m H' => Fd T.c_Node T.c_Field (upd H D (.lst ((rgI m).map V.int))) H' p (Emp m)) (F1.wr (q := D) (o := .lst []) (.inr hD)) ?_ ?_⟩
    · rintro m H4 hm F4
      rw [Int.zero_add]
      refine ⟨rfl, ?_⟩
      obtain ⟨dx, lt, ln, ob, no⟩ := F4.obj
      refine ⟨_, rfl, p, dx, _, rfl, ob, no _ (by decide +kernel) (by decide +kernel) (by decide +kernel), _, p, Emp m, rfl, F4, by rw [emp_len]; omega, fun H5 F5 => ?_⟩
      rw [emp_len]
      have F6 := F5.wr (q := D) (o := .lst ((rgI m).map V.int ++ [.int (m : Int)])) (.inl (by rw [upd_same]; intro z; cases z))
      rw [upd_upd, emp_next] at F6
      refine ⟨_, F5.same _ _ upd_same, Evl.sz_lt (by rw [List.length_map]; unfold rgI; rw [List.length_map, List.length_range]; omega), ?_⟩
      have e1 : rgI (m + 1) = rgI m ++ [(m : Int)] := by
        unfold rgI
        rw [List.range_succ, List.map_append]
        rfl
      rw [e1, List.map_append]
      exact F6
    intro H4 F4
    rw [eB, Int.toNat_natCast] at F4
    have sD : Same H (upd H D (.lst ((rgI (B + 2)).map V.int))) := same_new (F1.same.free hD)
    have eD : (upd H D (.lst ((rgI (B + 2)).map V.int))) D = some (.lst ((rgI (B + 2)).map V.int)) := upd_same
    generalize upd H D (.lst ((rgI (B + 2)).map V.int)) = H04 at F4 sD eD
    refine ⟨_, rfl, _, _, rfl, rfl, _, rfl, RgOk.of_le (by decide) (by omega) (by decide) (by omega), fun u hu => ?_⟩
    rw [eB, rgV_rgI]
    refine ⟨_, _, Dp.ints (same_new hu _ _ (F4.same _ _ eD)), Dp.ints upd_same, ints_shaped _, ints_shaped _, ?_⟩
    rw [eqv_ints]
    refine ⟨_, rfl, iteF ?_⟩
    have F5 := F4.later (same_new (o := .lst ((rgI (B + 2)).map V.int)) hu)
    generalize upd H4 u _ = H5 at F5 ⊢
    -- the two of them
    refine ⟨_, rfl, _, rfl, _, _, rfl, rfl, by show 2 ≤ sizeLine; decide, fun HL0 hHL0 => ?_⟩
    have F6 := F5.wr (q := HL0) (o := .lst [.int (B : Int), .int ((B : Int) + 1)]) (.inr hHL0)
    have n0 := F5.same.free hHL0
    have s06 : Same H (upd H04 HL0 (.lst [.int (B : Int), .int ((B : Int) + 1)])) := fun b o e => same_new n0 _ _ (sD _ _ e)
    have k06 : (upd H04 HL0 (.lst [.int (B : Int), .int ((B : Int) + 1)])) HL0 = some (.lst [.int (B : Int), .int ((B + 1 : Nat) : Int)]) := upd_same
    generalize upd H04 HL0 (.lst [.int (B : Int), .int ((B : Int) + 1)]) = H06 at F6 s06 k06
    generalize upd H5 HL0 (.lst [.int (B : Int), .int ((B : Int) + 1)]) = H6 at F6 ⊢
    refine ⟨fun (σ : List (Option V)) (H' : Hp) => ∃ (H0 : Hp) (HL : Addr) (j o : Nat), j ≠ o ∧ j < B + 2 ∧ o < B + 2 ∧ σ = [some (V.ref a), some (V.ref p), some (V.int c), some (V.int (B : Int)), none, some (V.ref HL), none, none, none, none] ∧ Same H H0 ∧ Fd T.c_Node T.c_Field H0 H' p (Emp (B + 2)) ∧ H0 HL = some (.lst [.int (j : Int), .int (o : Int)]), ?_, ?_⟩
    · refine ⟨_, rfl, _, rfl, rfl, _, rfl, rfl, rfl, _, rfl, t_2 (fun c1 => ?_) (fun c1 => ?_)⟩
      · refine ⟨_, rfl, _, _, rfl, rfl, _, rfl, by show 2 ≤ sizeLine; decide, fun HL1 hHL1 => ?_⟩
        have F7 := F6.wr (q := HL1) (o := .lst [.int ((B : Int) + 1), .int (B : Int)]) (.inr hHL1)
        have n1 := F6.same.free hHL1
        exact ⟨_, HL1, B + 1, B, by omega, by omega, by omega, rfl, fun b o e => same_new n1 _ _ (s06 _ _ e), F7, upd_same⟩
      · exact ⟨H06, HL0, B, B + 1, by omega, by omega, by omega, rfl, s06, F6, k06⟩
    clear F6 s06 k06 n0 F5 F4 sD eD hHL0
    rintro σ H7 ⟨H0, HL, j, o, hjo, hjB, hoB, rfl, sH, F7, kHL⟩
    -- the deeds ahead
    have hS7 : SqL K H7 a (ns.map V.int) := sql_same hS fun b o e => F7.same _ _ (sH _ _ e)
    have ens : ((ns.map V.int).length : Int) = (ns.length : Int) := by rw [List.length_map]
    have hN : (if ((ns.map V.int).length : Int) < 290 then ((ns.map V.int).length : Int) else 290) = (ns.length : Int) := by
      rw [ens]
      split <;> omega
    refine ⟨_, rfl, a, _, rfl, .inl hS7, _, _, rfl, 3, (ns.length : Int), congrArg (fun z => [V.int 3, V.int z]) hN, ⟨by omega, by omega, by omega, by omega⟩, for_range (lo := 3) (n := _) (fun i σ H' => ∃ (S : Fs) (v4 v6 : Option V), σ = [some (.ref a), some (.ref p), some (.int c), some (.int (B : Int)), v4, some (.ref HL), v6, none, none, none] ∧
      Fd T.c_Node T.c_Field H0 H' p S ∧ S.ts.length = B + 2 ∧ S.ns.length ≤ i) ⟨Emp (B + 2), none, none, rfl, F7, emp_len _, Nat.le_refl _⟩ ?_ ?_⟩
    · rintro i σ H' hi ⟨S, v4, v6, rfl, F, hl, hn⟩
      have hi2 : 3 + i < ns.length := by omega
      obtain ⟨z, hz⟩ : ∃ z, ns[3 + i]? = some z := ⟨ns[3 + i], List.getElem?_eq_getElem hi2⟩
      have hSi : SqL K H' a (ns.map V.int) := sql_same hS fun b o e => F.same _ _ (sH _ _ e)
      have ei : (3 : Int) + (i : Int) = ((3 + i : Nat) : Int) := by omega
      refine ⟨_, rfl, _, rfl, a, _, _, _, rfl, rfl, hSi, at_of (j := 3 + i) ei (int_at hz), _, rfl, rfl, ?_⟩
      obtain ⟨wn, hw, hw2⟩ : ∃ wn : Nat, z % 2 = (wn : Int) ∧ wn < 2 := ⟨(z % 2).toNat, by omega, by omega⟩
      obtain ⟨x, y, hxy, hxB, hyB, ax, ay⟩ : ∃ x y : Nat, x ≠ y ∧ x < B + 2 ∧ y < B + 2 ∧ ([.int (j : Int), .int (o : Int)] : List V)[wn]? = some (.int (x : Int)) ∧ ([.int (j : Int), .int (o : Int)] : List V)[1 - wn]? = some (.int (y : Int)) := by
        match wn, hw2 with
        | 0, _ => exact ⟨j, o, hjo, hjB, hoB, rfl, rfl⟩
        | 1, _ => exact ⟨o, j, fun e => hjo e.symm, hoB, hjB, rfl, rfl⟩
      have kHLi := F.same _ _ kHL
      refine ⟨_, rfl, _, rfl, _, rfl, HL, _, _, _, rfl, rfl, SqL.of kHLi, at_of (j := wn) hw ax, _, rfl, _, rfl, _, _, rfl, rfl, HL, _, _, _, rfl, rfl, SqL.of kHLi, at_of (j := 1 - wn) (by omega) ay, _, rfl, _, rfl, a, _, _, _, rfl, rfl, hSi, at_of (j := 3 + i) ei (int_at hz), _, rfl, rfl, _, rfl, rfl, _, rfl, _, rfl, a, _, _, _, rfl, rfl, hSi, at_of (j := 3 + i) ei (int_at hz), _, rfl, rfl, _, rfl, H0, p, S, x, y, _, _, _, rfl, F, hxy, by omega, by omega, by omega, by omega, fun H8 S8 F8 e1 e2 => ?_⟩
      exact ⟨S8, _, _, rfl, F8, by omega, by omega⟩
    clear F7 hS7
    rintro σ H7 ⟨S, v4, v6, rfl, F, hl, hn⟩
    have hns : S.ns.length < 1000 := by omega
    have G := F.1
    have hinj : InH S (j : Int) := ⟨by omega, by omega⟩
    have hino : InH S (o : Int) := ⟨by omega, by omega⟩
    -- the trees ahead
    obtain ⟨dx, lt, ln, ob, no⟩ := F.obj
    refine ⟨_, rfl, p, dx, _, rfl, ob, no _ (by decide +kernel) (by decide +kernel) (by decide +kernel), _, rfl, HL, [.int (j : Int), .int (o : Int)], 0, .int (j : Int), rfl, rfl, SqL.of (F.same _ _ kHL), rfl, H0, p, S, (j : Int), rfl, F, nat_log (by omega), fun j2 t0 ej ht0 Ha H8 L1 as1 sa hL1 told1 F8 => ?_, fun z => absurd hinj z⟩
    have ej2 : j2 = j := by omega
    subst ej2
    obtain ⟨dx, lt, ln, ob, no⟩ := F8.obj
    refine ⟨_, rfl, p, dx, _, rfl, ob, no _ (by decide +kernel) (by decide +kernel) (by decide +kernel), _, rfl, HL, [.int (j2 : Int), .int (o : Int)], 1, .int (o : Int), rfl, rfl, SqL.of (F8.same _ _ (sa _ _ kHL)), rfl, Ha, p, S, (o : Int), rfl, F8, nat_log (by omega), fun o2 t1 eo ht1 Hb H9 L2 as2 sb hL2 told2 F9 => ?_, fun z => absurd hino z⟩
    have eo2 : o2 = o := by omega
    subst eo2
    refine ⟨by show 2 ≤ sizeLine; decide, fun LR hLR => ?_⟩
    have F10 := F9.wr (q := LR) (o := .lst [.ref L1, .ref L2]) (.inr hLR)
    have nLR := F9.same.free hLR
    have s10 : Same Hb (upd Hb LR (.lst [.ref L1, .ref L2])) := same_new nLR
    have k10 : (upd Hb LR (.lst [.ref L1, .ref L2])) LR = some (.lst [.ref L1, .ref L2]) := upd_same
    generalize upd Hb LR (.lst [.ref L1, .ref L2]) = Hc at F10 s10 k10
    generalize upd H9 LR (.lst [.ref L1, .ref L2]) = H10 at F10 ⊢
    have told1c := (told1.same sb).same s10
    have told2c := told2.same s10
    have kHLc := s10 _ _ (sb _ _ (sa _ _ kHL))
    have sHc : Same H Hc := fun b o e => s10 _ _ (sb _ _ (sa _ _ (sH _ _ e)))
    clear F9 F8 told1 told2
    -- the notes
    intro N hN
    have F11 := F10.wr (q := N) (o := .dK []) (.inr hN)
    have nN := F10.same.free hN
    have s11 : Same Hc (upd Hc N (.dK [])) := same_new nN
    have kN : (upd Hc N (.dK [])) N = some (.dK []) := upd_same
    generalize upd Hc N (.dK []) = Hd at F11 s11 kN
    generalize upd H10 N (.dK []) = H11 at F11 ⊢
    have hids : ∀ t : Tre, (subs t).map idR = (dats t).map Dat.i := fun t => by
      unfold dats
      rw [List.map_map, ← subs_nodes, List.map_map]
      rfl
    have nd01 : ((subs t0 ++ subs t1).map idR).Nodup := by
      rw [List.map_append, hids, hids, List.nodup_append]
      refine ⟨G.ndI ht0, G.ndI ht1, fun i hi i' hi' e => ?_⟩
      obtain ⟨d, hd, hdi⟩ := List.mem_map.mp hi
      obtain ⟨d', hd', hdi'⟩ := List.mem_map.mp hi'
      exact hjo (G.one ht0 ht1 hd hd' (by omega)).1
    have sz01 : (subs t0 ++ subs t1).length ≤ 2000 := by
      rw [List.length_append, ← List.length_map (as := subs t0) (·.1), ← List.length_map (as := subs t1) (·.1), subs_nodes, subs_nodes, size_nodes, size_nodes]
      have h1 := G.size ht0
      have h2 := G.size ht1
      have := G.len
      omega
    have nse : NS Hd N [] [] := NS.empty kN
    refine ⟨_, rfl, _, rfl, LR, [.ref L1, .ref L2], 0, .ref L1, rfl, rfl, SqL.of (F11.same _ _ (s11 _ _ k10)), rfl, N, L1, [], [], as1, t0, rfl, nse.same F11.same, (told1c.same s11).same F11.same, ?_, ?_, fun H12 kvs1 ns1 f1 fn1 => ?_⟩
    · rw [List.nil_append]
      rw [List.map_append, List.nodup_append] at nd01
      exact nd01.1
    · rw [List.nil_append]
      rw [List.length_append] at sz01
      omega
    rw [List.nil_append] at ns1
    have F12 := F11.dom (H2 := H12) fun b u hb h0 => f1 b u hb fun z => by
      rw [z, kN] at h0
      cases h0
    have ns12 := nse.keep ns1 fn1
    have keep1 : ∀ b u, Hd b = some u → b ≠ N → keepH Hd H11 H12 b = some u := fun b u hb hbN => by
      rw [keepH_old hb]
      exact f1 b u (F11.same _ _ hb) hbN
    have ne_of : ∀ {b : Addr} {u : HO}, Hc b = some u → b ≠ N := fun e z => by
      rw [z, nN] at e
      cases e
    have old1 : ∀ b u, Hc b = some u → keepH Hd H11 H12 b = some u := fun b u hb => keep1 b u (s11 _ _ hb) (ne_of hb)
    generalize keepH Hd H11 H12 = He at F12 ns12 old1
    have told1e : Told He L1 as1 t0 := ⟨old1 _ _ told1c.lst, told1c.len, fun kk b e => let ⟨x, h1, h2⟩ := told1c.row kk b e; ⟨x, h1, old1 _ _ h2⟩⟩
    have told2e : Told He L2 as2 t1 := ⟨old1 _ _ told2c.lst, told2c.len, fun kk b e => let ⟨x, h1, h2⟩ := told2c.row kk b e; ⟨x, h1, old1 _ _ h2⟩⟩
    refine ⟨_, rfl, _, rfl, LR, [.ref L1, .ref L2], 1, .ref L2, rfl, rfl, SqL.of (F12.same _ _ (old1 _ _ k10)), rfl, N, L2, kvs1, subs t0, as2, t1, rfl, ns12.same F12.same, told2e.same F12.same, nd01, sz01, fun H13 kvs2 ns2 f2 fn2 => ?_⟩
    have F13 := F12.dom (H2 := H13) fun b u hb h0 => f2 b u hb fun z => by
      have := ns12.d
      rw [← z, h0] at this
      cases this
    have ns13 := ns12.keep ns2 fn2
    have old2 : ∀ b u, Hc b = some u → keepH He H12 H13 b = some u := fun b u hb => by
      rw [keepH_old (old1 _ _ hb)]
      exact f2 b u (F12.same _ _ (old1 _ _ hb)) (ne_of hb)
    generalize keepH He H12 H13 = Hf at F13 ns13 old2
    have told1f : Told Hf L1 as1 t0 := ⟨old2 _ _ told1c.lst, told1c.len, fun kk b e => let ⟨x, h1, h2⟩ := told1c.row kk b e; ⟨x, h1, old2 _ _ h2⟩⟩
    have told2f : Told Hf L2 as2 t1 := ⟨old2 _ _ told2c.lst, told2c.len, fun kk b e => let ⟨x, h1, h2⟩ := told2c.row kk b e; ⟨x, h1, old2 _ _ h2⟩⟩
    have hS13 : SqL K H13 a (ns.map V.int) := sql_same hS fun b u e => F13.same _ _ (old2 _ _ (sHc _ _ e))
    clear F12 F11 F10 ns12 told1e told2e nse
    -- what is due
    refine ⟨_, rfl, _, rfl, _, rfl, _, rfl, _, rfl, _, rfl, a, ns, 1, rfl, hS13, Hf, p, HL, N, LR, L1, L2, S, kvs2, as1, as2, t0, t1, j2, o2, c, _, rfl, F13, old2 _ _ kHLc, old2 _ _ k10, told1f, told2f, ht0, ht1, hjo, by omega, hns, ns13, fun H0' H' S' T' wk q kvs' R' F' hT' hwk ns' hq hfr hu => ?_⟩
    have kHL' : H0' HL = some (.lst [.int (j2 : Int), .int (o2 : Int)]) := hfr _ _ (old2 _ _ kHLc) (ne_of kHLc) fun x z => by
      have := HO.lst.inj z
      unfold noteL at this
      simp at this
    have kLR' : H0' LR = some (.lst [.ref L1, .ref L2]) := hfr _ _ (old2 _ _ k10) (ne_of k10) fun x z => by
      have := HO.lst.inj z
      unfold noteL at this
      simp at this
    have told' : ∀ {L : Addr} {as : List Addr} {t : Tre}, Told Hc L as t → Told H0' L as t := fun {L as t} h => by
      refine ⟨hfr _ _ (old2 _ _ h.lst) (ne_of h.lst) fun x z => ?_, h.len, fun kk b e => ?_⟩
      · have := HO.lst.inj z
        unfold noteL at this
        cases as with
        | nil => simp at this
        | cons b bs => simp at this
      · obtain ⟨x, h1, h2⟩ := h.row kk b e
        exact ⟨x, h1, hfr _ _ (old2 _ _ h2) (ne_of h2) fun y z => by cases z⟩
    have told1' := told' told1c
    have told2' := told' told2c
    clear told' hfr F13 ns13 told1f told2f hS13
    -- the work
    have G' := F'.1
    have hjl := get_len hT'
    have hinj' : InH S' (j2 : Int) := ⟨by omega, by omega⟩
    have szT : T'.size ≤ 1000 := by
      have h1 := G'.size hT'
      have := G'.len
      omega
    obtain ⟨dx, lt, ln, ob, no⟩ := F'.obj
    refine ⟨_, rfl, p, dx, _, rfl, ob, no _ (by decide +kernel) (by decide +kernel) (by decide +kernel), H0', p, S', rfl, F', _, rfl, q, _, 1, .int (wk : Int), rfl, rfl, SqT.of (F'.same _ _ hq), rfl, rfl, _, rfl, n_yes (congrArg V.int hwk) ?_⟩
    -- the tree
    refine ⟨_, rfl, p, dx, _, rfl, ob, no _ (by decide +kernel) (by decide +kernel) (by decide +kernel), _, rfl, HL, [.int (j2 : Int), .int (o2 : Int)], 0, .int (j2 : Int), rfl, rfl, SqL.of (F'.same _ _ kHL'), rfl, H0', p, S', (j2 : Int), rfl, F', nat_log (by omega), fun j3 t3 ej ht3 Hg H14 L3 as3 sg hL3 told3 F14 => ?_, fun z => absurd hinj' z⟩
    have ej3 : j3 = j2 := by omega
    subst ej3
    rw [hT'] at ht3
    cases ht3
    refine ⟨_, rfl, _, rfl, q, _, 0, thV T', rfl, rfl, SqT.of (F14.same _ _ (sg _ _ hq)), rfl, N, kvs', subs T' ++ R', T', rfl, (ns'.same sg).same F14.same, fun x hx => List.mem_append_left _ hx, szT, fun H15 L5 as5 s15 hL5 told5 => ?_⟩
    refine ⟨_, _, ((told3.same F14.same).same s15).dp, told5.dp, rows_shaped _, rows_shaped _, ?_⟩
    rw [rows_eqv]
    refine ⟨_, rfl, iteF ?_⟩
    have F15 := F14.later s15
    clear F14 F' told3 told5
    obtain ⟨u, hu0, hu1, hu2⟩ := hu
    have hino' : InH S' (o2 : Int) := by
      have := get_len hu0
      exact ⟨by omega, by omega⟩
    have hoz : o2 < 90000 := by omega
    refine ⟨_, rfl, _, rfl, rfl, rfl, _, rfl, t_2 (fun c2 => iteT ?_) (fun c2 => ?_)⟩
    · have HC : c % 4 = 2 ∨ (t0 = .nil ∧ c % 4 ≠ 0) := .inl (V.int.inj c2)
      have FF := F15
      obtain ⟨dx, lt, ln, ob, no⟩ := FF.obj
      refine ⟨_, rfl, p, dx, _, rfl, ob, no _ (by decide +kernel) (by decide +kernel) (by decide +kernel), _, rfl, HL, [.int (j3 : Int), .int (o2 : Int)], 1, .int (o2 : Int), rfl, rfl, SqL.of (FF.same _ _ (sg _ _ kHL')), rfl, Hg, p, S', (o2 : Int), rfl, FF, nat_log (by omega), fun j4 t4 ej4 ht4 Hh H16 L6 as6 s6 hL6 told6 F16 => ?_, fun z => absurd hino' z⟩
      have ej5 : j4 = o2 := by omega
      subst ej5
      rw [hu0] at ht4
      cases ht4
      refine ⟨Nat.zero_le _, fun e1 he1 => ⟨_, _, ((told6.same F16.same).same (same_new he1)).dp, Dp.none upd_same, rows_shaped _, rfl, ?_⟩⟩
      rw [eqv_rows_nil, hu1 HC]
      exact k _
    have hc2 : ¬ c % 4 = 2 := fun z => c2 (by rw [z])
    refine ⟨_, rfl, LR, [.ref L1, .ref L2], 0, .ref L1, rfl, rfl, SqL.of (F15.same _ _ (sg _ _ kLR')), rfl, Nat.zero_le _, fun e0 he0 => ⟨_, _, ((told1'.same sg).same (fun b o e => same_new he0 _ _ (F15.same _ _ e))).dp, Dp.none upd_same, rows_shaped _, rfl, ?_⟩⟩
    rw [eqv_rows_nil]
    have FF := F15.later (same_new (o := .lst []) he0)
    generalize upd H15 e0 (.lst []) = H15e at FF ⊢
    obtain ⟨dx, lt, ln, ob, no⟩ := FF.obj
    refine ⟨_, rfl, t_2 (fun c3 => ?_) (fun c3 => iteF ?_)⟩
    · refine ⟨_, rfl, _, rfl, rfl, rfl, _, rfl, ?_⟩
      by_cases c4 : c % 4 = 0
      · refine n_yes (by rw [c4]) ?_
        have HC : ¬ (c % 4 = 2 ∨ (t0 = .nil ∧ c % 4 ≠ 0)) := fun z => by
          rcases z with z | z
          · exact hc2 z
          · exact z.2 c4
        refine ⟨_, rfl, p, dx, _, rfl, ob, no _ (by decide +kernel) (by decide +kernel) (by decide +kernel), _, rfl, HL, [.int (j3 : Int), .int (o2 : Int)], 1, .int (o2 : Int), rfl, rfl, SqL.of (FF.same _ _ (sg _ _ kHL')), rfl, Hg, p, S', (o2 : Int), rfl, FF, nat_log (by omega), fun j4 t4 ej4 ht4 Hh H16 L6 as6 s6 hL6 told6 F16 => ?_, fun z => absurd hino' z⟩
        have ej5 : j4 = o2 := by omega
        subst ej5
        rw [hu0] at ht4
        cases ht4
        refine ⟨_, rfl, LR, [.ref L1, .ref L2], 1, .ref L2, rfl, rfl, SqL.of (F16.same _ _ (s6 _ _ (sg _ _ kLR'))), rfl, ?_⟩
        rw [hu2 HC] at told6
        refine ⟨_, _, (told6.same F16.same).dp, (((told2'.same sg).same s6).same F16.same).dp, rows_shaped _, rows_shaped _, ?_⟩
        rw [rows_eqv]
        exact k _
      · refine n_no (fun z => c4 (V.int.inj z)) ?_
        have HC : c % 4 = 2 ∨ (t0 = .nil ∧ c % 4 ≠ 0) := .inr ⟨subs_nil.mp c3, c4⟩
        refine ⟨_, rfl, p, dx, _, rfl, ob, no _ (by decide +kernel) (by decide +kernel) (by decide +kernel), _, rfl, HL, [.int (j3 : Int), .int (o2 : Int)], 1, .int (o2 : Int), rfl, rfl, SqL.of (FF.same _ _ (sg _ _ kHL')), rfl, Hg, p, S', (o2 : Int), rfl, FF, nat_log (by omega), fun j4 t4 ej4 ht4 Hh H16 L6 as6 s6 hL6 told6 F16 => ?_, fun z => absurd hino' z⟩
        have ej5 : j4 = o2 := by omega
        subst ej5
        rw [hu0] at ht4
        cases ht4
        refine ⟨Nat.zero_le _, fun e1 he1 => ⟨_, _, ((told6.same F16.same).same (same_new he1)).dp, Dp.none upd_same, rows_shaped _, rfl, ?_⟩⟩
        rw [eqv_rows_nil, hu1 HC]
        exact k _
    · have HC : ¬ (c % 4 = 2 ∨ (t0 = .nil ∧ c % 4 ≠ 0)) := fun z => by
        rcases z with z | z
        · exact hc2 z
        · exact c3 (subs_nil.mpr z.1)
      refine ⟨_, rfl, p, dx, _, rfl, ob, no _ (by decide +kernel) (by decide +kernel) (by decide +kernel), _, rfl, HL, [.int (j3 : Int), .int (o2 : Int)], 1, .int (o2 : Int), rfl, rfl, SqL.of (FF.same _ _ (sg _ _ kHL')), rfl, Hg, p, S', (o2 : Int), rfl, FF, nat_log (by omega), fun j4 t4 ej4 ht4 Hh H16 L6 as6 s6 hL6 told6 F16 => ?_, fun z => absurd hino' z⟩
      have ej5 : j4 = o2 := by omega
      subst ej5
      rw [hu0] at ht4
      cases ht4
      refine ⟨_, rfl, LR, [.ref L1, .ref L2], 1, .ref L2, rfl, rfl, SqL.of (F16.same _ _ (s6 _ _ (sg _ _ kLR'))), rfl, ?_⟩
      rw [hu2 HC] at told6
      refine ⟨_, _, (told6.same F16.same).dp, (((told2'.same sg).same s6).same F16.same).dp, rows_shaped _, rows_shaped _, ?_⟩
      rw [rows_eqv]
      exact k _
end
theorem all_mk {l : PySem.W.OpenLaw} {w : World} {K : PySem.W.Frag} {h : Heap} {mg : Str → Option Value} {fa : Addr} (X : K.In h) (G : h.Ns mainGlobals mg) (hfa : mg "law" = some (.ref fa))
    {c_Node : Addr}
    {c_Field : Addr}
    {e_HeapError : Addr}
    {e_NoHeap : Addr}
    {e_NoThing : Addr}
    {e_Bare : Addr}
    {e_Same : Addr}
    {e_Heavier : Addr}
    {f_Node_init : Addr} {od_Node_init an_Node_init : Option Addr} {sl_Node_init : Array (Option Value)} {oc_Node_init kV_Node_init dc_Node_init pm_Node_init cd_Node_init ct_Node_init : Value}
    {f_lesser : Addr} {od_lesser an_lesser : Option Addr} {sl_lesser : Array (Option Value)} {oc_lesser kV_lesser dc_lesser pm_lesser cd_lesser ct_lesser : Value}
    {f_run_of : Addr} {od_run_of an_run_of : Option Addr} {sl_run_of : Array (Option Value)} {oc_run_of kV_run_of dc_run_of pm_run_of cd_run_of ct_run_of : Value}
    {f_thing_of : Addr} {od_thing_of an_thing_of : Option Addr} {sl_thing_of : Array (Option Value)} {oc_thing_of kV_thing_of dc_thing_of pm_thing_of cd_thing_of ct_thing_of : Value}
    {f_settle : Addr} {od_settle an_settle : Option Addr} {sl_settle : Array (Option Value)} {oc_settle kV_settle dc_settle pm_settle cd_settle ct_settle : Value}
    {f_meet : Addr} {od_meet an_meet : Option Addr} {sl_meet : Array (Option Value)} {oc_meet kV_meet dc_meet pm_meet cd_meet ct_meet : Value}
    {f_joined : Addr} {od_joined an_joined : Option Addr} {sl_joined : Array (Option Value)} {oc_joined kV_joined dc_joined pm_joined cd_joined ct_joined : Value}
    {f_cut_out : Addr} {od_cut_out an_cut_out : Option Addr} {sl_cut_out : Array (Option Value)} {oc_cut_out kV_cut_out dc_cut_out pm_cut_out cd_cut_out ct_cut_out : Value}
    {f_in_order : Addr} {od_in_order an_in_order : Option Addr} {sl_in_order : Array (Option Value)} {oc_in_order kV_in_order dc_in_order pm_in_order cd_in_order ct_in_order : Value}
    {f_Field_init : Addr} {od_Field_init an_Field_init : Option Addr} {sl_Field_init : Array (Option Value)} {oc_Field_init kV_Field_init dc_Field_init pm_Field_init cd_Field_init ct_Field_init : Value}
    {f_Field_heap : Addr} {od_Field_heap an_Field_heap : Option Addr} {sl_Field_heap : Array (Option Value)} {oc_Field_heap kV_Field_heap dc_Field_heap pm_Field_heap cd_Field_heap ct_Field_heap : Value}
    {f_Field_put : Addr} {od_Field_put an_Field_put : Option Addr} {sl_Field_put : Array (Option Value)} {oc_Field_put kV_Field_put dc_Field_put pm_Field_put cd_Field_put ct_Field_put : Value}
    {f_Field_least : Addr} {od_Field_least an_Field_least : Option Addr} {sl_Field_least : Array (Option Value)} {oc_Field_least kV_Field_least dc_Field_least pm_Field_least cd_Field_least ct_Field_least : Value}
    {f_Field_take : Addr} {od_Field_take an_Field_take : Option Addr} {sl_Field_take : Array (Option Value)} {oc_Field_take kV_Field_take dc_Field_take pm_Field_take cd_Field_take ct_Field_take : Value}
    {f_Field_pour : Addr} {od_Field_pour an_Field_pour : Option Addr} {sl_Field_pour : Array (Option Value)} {oc_Field_pour kV_Field_pour dc_Field_pour pm_Field_pour cd_Field_pour ct_Field_pour : Value}
    {f_Field_sink : Addr} {od_Field_sink an_Field_sink : Option Addr} {sl_Field_sink : Array (Option Value)} {oc_Field_sink kV_Field_sink dc_Field_sink pm_Field_sink cd_Field_sink ct_Field_sink : Value}
    {f_Field_things : Addr} {od_Field_things an_Field_things : Option Addr} {sl_Field_things : Array (Option Value)} {oc_Field_things kV_Field_things dc_Field_things pm_Field_things cd_Field_things ct_Field_things : Value}
    {f_Field_tree : Addr} {od_Field_tree an_Field_tree : Option Addr} {sl_Field_tree : Array (Option Value)} {oc_Field_tree kV_Field_tree dc_Field_tree pm_Field_tree cd_Field_tree ct_Field_tree : Value}
    {f_Field_work : Addr} {od_Field_work an_Field_work : Option Addr} {sl_Field_work : Array (Option Value)} {oc_Field_work kV_Field_work dc_Field_work pm_Field_work cd_Field_work ct_Field_work : Value}
    {f_Field_plant : Addr} {od_Field_plant an_Field_plant : Option Addr} {sl_Field_plant : Array (Option Value)} {oc_Field_plant kV_Field_plant dc_Field_plant pm_Field_plant cd_Field_plant ct_Field_plant : Value}
    {f_Field_check_heap : Addr} {od_Field_check_heap an_Field_check_heap : Option Addr} {sl_Field_check_heap : Array (Option Value)} {oc_Field_check_heap kV_Field_check_heap dc_Field_check_heap pm_Field_check_heap cd_Field_check_heap ct_Field_check_heap : Value}
    {f_Field_top : Addr} {od_Field_top an_Field_top : Option Addr} {sl_Field_top : Array (Option Value)} {oc_Field_top kV_Field_top dc_Field_top pm_Field_top cd_Field_top ct_Field_top : Value}
    {f_Field_node : Addr} {od_Field_node an_Field_node : Option Addr} {sl_Field_node : Array (Option Value)} {oc_Field_node kV_Field_node dc_Field_node pm_Field_node cd_Field_node ct_Field_node : Value}
    {f_l_cell : Addr} {od_l_cell an_l_cell : Option Addr} {sl_l_cell : Array (Option Value)} {oc_l_cell kV_l_cell dc_l_cell pm_l_cell cd_l_cell ct_l_cell : Value}
    {f_l_weight : Addr} {od_l_weight an_l_weight : Option Addr} {sl_l_weight : Array (Option Value)} {oc_l_weight kV_l_weight dc_l_weight pm_l_weight cd_l_weight ct_l_weight : Value}
    {f_l_noted : Addr} {od_l_noted an_l_noted : Option Addr} {sl_l_noted : Array (Option Value)} {oc_l_noted kV_l_noted dc_l_noted pm_l_noted cd_l_noted ct_l_noted : Value}
    {f_l_run : Addr} {od_l_run an_l_run : Option Addr} {sl_l_run : Array (Option Value)} {oc_l_run kV_l_run dc_l_run pm_l_run cd_l_run ct_l_run : Value}
    {f_l_sided : Addr} {od_l_sided an_l_sided : Option Addr} {sl_l_sided : Array (Option Value)} {oc_l_sided kV_l_sided dc_l_sided pm_l_sided cd_l_sided ct_l_sided : Value}
    {f_l_joined : Addr} {od_l_joined an_l_joined : Option Addr} {sl_l_joined : Array (Option Value)} {oc_l_joined kV_l_joined dc_l_joined pm_l_joined cd_l_joined ct_l_joined : Value}
    {f_l_above : Addr} {od_l_above an_l_above : Option Addr} {sl_l_above : Array (Option Value)} {oc_l_above kV_l_above dc_l_above pm_l_above cd_l_above ct_l_above : Value}
    {f_l_sunk : Addr} {od_l_sunk an_l_sunk : Option Addr} {sl_l_sunk : Array (Option Value)} {oc_l_sunk kV_l_sunk dc_l_sunk pm_l_sunk cd_l_sunk ct_l_sunk : Value}
    {f_l_told : Addr} {od_l_told an_l_told : Option Addr} {sl_l_told : Array (Option Value)} {oc_l_told kV_l_told dc_l_told pm_l_told cd_l_told ct_l_told : Value}
    {f_l_top : Addr} {od_l_top an_l_top : Option Addr} {sl_l_top : Array (Option Value)} {oc_l_top kV_l_top dc_l_top pm_l_top cd_l_top ct_l_top : Value}
    {f_l_due : Addr} {od_l_due an_l_due : Option Addr} {sl_l_due : Array (Option Value)} {oc_l_due kV_l_due dc_l_due pm_l_due cd_l_due ct_l_due : Value}
    {f_l_done : Addr} {od_l_done an_l_done : Option Addr} {sl_l_done : Array (Option Value)} {oc_l_done kV_l_done dc_l_done pm_l_done cd_l_done ct_l_done : Value}
    {f_law : Addr} {od_law an_law : Option Addr} {sl_law : Array (Option Value)} {oc_law kV_law dc_law pm_law cd_law ct_law : Value}
    (q_Node : PySem.W.nsIn K mainGlobals "Node" = some (some (.ref c_Node)))
    (pg_Node : PySem.W.plainGet K c_Node Str.empty = true)
    (hd_Node : PySem.W.hasDictIn K c_Node = true)
    (po_Node : PySem.W.plainOver K c_Node = true)
    (sa_Node : PySem.W.findIn K (.ref c_Node) "__setattr__" = some (some (.builtin "object.__setattr__")))
    (n_Node_thing : PySem.W.findIn K (.ref c_Node) "thing" = some none)
    (n_Node_weight : PySem.W.findIn K (.ref c_Node) "weight" = some none)
    (n_Node_home : PySem.W.findIn K (.ref c_Node) "home" = some none)
    (n_Node_above : PySem.W.findIn K (.ref c_Node) "above" = some none)
    (n_Node_left : PySem.W.findIn K (.ref c_Node) "left" = some none)
    (n_Node_right : PySem.W.findIn K (.ref c_Node) "right" = some none)
    (n_Node_run : PySem.W.findIn K (.ref c_Node) "run" = some none)
    (ob_Node : PySem.W.mroIn K c_Node (.type "object") = some true)
    (eq_Node : PySem.W.findIn K (.ref c_Node) "__eq__" = some (some (.builtin "object.__eq__")))
    (no_Node : PySem.W.subIn K (.ref c_Node) (.type "NoneType") = some false)
    (q_Field : PySem.W.nsIn K mainGlobals "Field" = some (some (.ref c_Field)))
    (pg_Field : PySem.W.plainGet K c_Field Str.empty = true)
    (hd_Field : PySem.W.hasDictIn K c_Field = true)
    (po_Field : PySem.W.plainOver K c_Field = true)
    (sa_Field : PySem.W.findIn K (.ref c_Field) "__setattr__" = some (some (.builtin "object.__setattr__")))
    (n_Field_tops : PySem.W.findIn K (.ref c_Field) "_tops" = some none)
    (n_Field_nodes : PySem.W.findIn K (.ref c_Field) "_nodes" = some none)
    (n_Field_work : PySem.W.findIn K (.ref c_Field) "_work" = some none)
    (q_HeapError : PySem.W.nsIn K mainGlobals "HeapError" = some (some (.ref e_HeapError)))
    (x_HeapError : PySem.W.excIn K e_HeapError [.type "ValueError", .type "Exception", .type "BaseException", .type "object"] "ValueError.__new__" = true)
    (k_HeapError : PySem.W.keepIn K (.ref e_HeapError) = true)
    (b_HeapError : PySem.W.subIn K (.ref e_HeapError) (.type "BaseException") = some true)
    (t_HeapError : PySem.W.typeIn K (.ref e_HeapError) = some (.type "type"))
    (q_NoHeap : PySem.W.nsIn K mainGlobals "NoHeap" = some (some (.ref e_NoHeap)))
    (x_NoHeap : PySem.W.excIn K e_NoHeap [.type "ValueError", .type "Exception", .type "BaseException", .type "object"] "ValueError.__new__" = true)
    (k_NoHeap : PySem.W.keepIn K (.ref e_NoHeap) = true)
    (b_NoHeap : PySem.W.subIn K (.ref e_NoHeap) (.type "BaseException") = some true)
    (t_NoHeap : PySem.W.typeIn K (.ref e_NoHeap) = some (.type "type"))
    (q_NoThing : PySem.W.nsIn K mainGlobals "NoThing" = some (some (.ref e_NoThing)))
    (x_NoThing : PySem.W.excIn K e_NoThing [.type "ValueError", .type "Exception", .type "BaseException", .type "object"] "ValueError.__new__" = true)
    (k_NoThing : PySem.W.keepIn K (.ref e_NoThing) = true)
    (b_NoThing : PySem.W.subIn K (.ref e_NoThing) (.type "BaseException") = some true)
    (t_NoThing : PySem.W.typeIn K (.ref e_NoThing) = some (.type "type"))
    (q_Bare : PySem.W.nsIn K mainGlobals "Bare" = some (some (.ref e_Bare)))
    (x_Bare : PySem.W.excIn K e_Bare [.type "ValueError", .type "Exception", .type "BaseException", .type "object"] "ValueError.__new__" = true)
    (k_Bare : PySem.W.keepIn K (.ref e_Bare) = true)
    (b_Bare : PySem.W.subIn K (.ref e_Bare) (.type "BaseException") = some true)
    (t_Bare : PySem.W.typeIn K (.ref e_Bare) = some (.type "type"))
    (q_Same : PySem.W.nsIn K mainGlobals "Same" = some (some (.ref e_Same)))
    (x_Same : PySem.W.excIn K e_Same [.type "ValueError", .type "Exception", .type "BaseException", .type "object"] "ValueError.__new__" = true)
    (k_Same : PySem.W.keepIn K (.ref e_Same) = true)
    (b_Same : PySem.W.subIn K (.ref e_Same) (.type "BaseException") = some true)
    (t_Same : PySem.W.typeIn K (.ref e_Same) = some (.type "type"))
    (q_Heavier : PySem.W.nsIn K mainGlobals "Heavier" = some (some (.ref e_Heavier)))
    (x_Heavier : PySem.W.excIn K e_Heavier [.type "ValueError", .type "Exception", .type "BaseException", .type "object"] "ValueError.__new__" = true)
    (k_Heavier : PySem.W.keepIn K (.ref e_Heavier) = true)
    (b_Heavier : PySem.W.subIn K (.ref e_Heavier) (.type "BaseException") = some true)
    (t_Heavier : PySem.W.typeIn K (.ref e_Heavier) = some (.type "type"))
    (a_Node_init : PySem.W.findIn K (.ref c_Node) "__init__" = some (some (.ref f_Node_init)))
    (i_Node_init : PySem.W.isFn K (.ref f_Node_init) = true)
    (l_Node_init : K.lookup f_Node_init = some ⟨oc_Node_init, od_Node_init, .func (PySem.W.fnOf "__init__" "Node.__init__" (defArgs s_Node_init) (defBody s_Node_init) (defScope s_Node_init) .none kV_Node_init dc_Node_init pm_Node_init an_Node_init cd_Node_init ct_Node_init), sl_Node_init⟩)
    (c_Node_init : PySem.W.codeIn K cd_Node_init "Node.__init__" = true)
    (k_Node_init : PySem.W.keepIn K (.ref f_Node_init) = true)
    (mk_Node : PySem.W.makesIn K c_Node = true)
    (kc_Node : PySem.W.keepIn K (.ref c_Node) = true)
    (a_lesser : PySem.W.nsIn K mainGlobals "lesser" = some (some (.ref f_lesser)))
    (l_lesser : K.lookup f_lesser = some ⟨oc_lesser, od_lesser, .func (PySem.W.fnOf "lesser" "lesser" (defArgs s_lesser) (defBody s_lesser) (defScope s_lesser) .none kV_lesser dc_lesser pm_lesser an_lesser cd_lesser ct_lesser), sl_lesser⟩)
    (c_lesser : PySem.W.codeIn K cd_lesser "lesser" = true)
    (k_lesser : PySem.W.keepIn K (.ref f_lesser) = true)
    (a_run_of : PySem.W.nsIn K mainGlobals "run_of" = some (some (.ref f_run_of)))
    (l_run_of : K.lookup f_run_of = some ⟨oc_run_of, od_run_of, .func (PySem.W.fnOf "run_of" "run_of" (defArgs s_run_of) (defBody s_run_of) (defScope s_run_of) .none kV_run_of dc_run_of pm_run_of an_run_of cd_run_of ct_run_of), sl_run_of⟩)
    (c_run_of : PySem.W.codeIn K cd_run_of "run_of" = true)
    (k_run_of : PySem.W.keepIn K (.ref f_run_of) = true)
    (a_thing_of : PySem.W.nsIn K mainGlobals "thing_of" = some (some (.ref f_thing_of)))
    (l_thing_of : K.lookup f_thing_of = some ⟨oc_thing_of, od_thing_of, .func (PySem.W.fnOf "thing_of" "thing_of" (defArgs s_thing_of) (defBody s_thing_of) (defScope s_thing_of) .none kV_thing_of dc_thing_of pm_thing_of an_thing_of cd_thing_of ct_thing_of), sl_thing_of⟩)
    (c_thing_of : PySem.W.codeIn K cd_thing_of "thing_of" = true)
    (k_thing_of : PySem.W.keepIn K (.ref f_thing_of) = true)
    (a_settle : PySem.W.nsIn K mainGlobals "settle" = some (some (.ref f_settle)))
    (l_settle : K.lookup f_settle = some ⟨oc_settle, od_settle, .func (PySem.W.fnOf "settle" "settle" (defArgs s_settle) (defBody s_settle) (defScope s_settle) .none kV_settle dc_settle pm_settle an_settle cd_settle ct_settle), sl_settle⟩)
    (c_settle : PySem.W.codeIn K cd_settle "settle" = true)
    (k_settle : PySem.W.keepIn K (.ref f_settle) = true)
    (a_meet : PySem.W.nsIn K mainGlobals "meet" = some (some (.ref f_meet)))
    (l_meet : K.lookup f_meet = some ⟨oc_meet, od_meet, .func (PySem.W.fnOf "meet" "meet" (defArgs s_meet) (defBody s_meet) (defScope s_meet) .none kV_meet dc_meet pm_meet an_meet cd_meet ct_meet), sl_meet⟩)
    (c_meet : PySem.W.codeIn K cd_meet "meet" = true)
    (k_meet : PySem.W.keepIn K (.ref f_meet) = true)
    (a_joined : PySem.W.nsIn K mainGlobals "joined" = some (some (.ref f_joined)))
    (l_joined : K.lookup f_joined = some ⟨oc_joined, od_joined, .func (PySem.W.fnOf "joined" "joined" (defArgs s_joined) (defBody s_joined) (defScope s_joined) .none kV_joined dc_joined pm_joined an_joined cd_joined ct_joined), sl_joined⟩)
    (c_joined : PySem.W.codeIn K cd_joined "joined" = true)
    (k_joined : PySem.W.keepIn K (.ref f_joined) = true)
    (a_cut_out : PySem.W.nsIn K mainGlobals "cut_out" = some (some (.ref f_cut_out)))
    (l_cut_out : K.lookup f_cut_out = some ⟨oc_cut_out, od_cut_out, .func (PySem.W.fnOf "cut_out" "cut_out" (defArgs s_cut_out) (defBody s_cut_out) (defScope s_cut_out) .none kV_cut_out dc_cut_out pm_cut_out an_cut_out cd_cut_out ct_cut_out), sl_cut_out⟩)
    (c_cut_out : PySem.W.codeIn K cd_cut_out "cut_out" = true)
    (k_cut_out : PySem.W.keepIn K (.ref f_cut_out) = true)
    (a_in_order : PySem.W.nsIn K mainGlobals "in_order" = some (some (.ref f_in_order)))
    (l_in_order : K.lookup f_in_order = some ⟨oc_in_order, od_in_order, .func (PySem.W.fnOf "in_order" "in_order" (defArgs s_in_order) (defBody s_in_order) (defScope s_in_order) .none kV_in_order dc_in_order pm_in_order an_in_order cd_in_order ct_in_order), sl_in_order⟩)
    (c_in_order : PySem.W.codeIn K cd_in_order "in_order" = true)
    (k_in_order : PySem.W.keepIn K (.ref f_in_order) = true)
    (a_Field_init : PySem.W.findIn K (.ref c_Field) "__init__" = some (some (.ref f_Field_init)))
    (i_Field_init : PySem.W.isFn K (.ref f_Field_init) = true)
    (l_Field_init : K.lookup f_Field_init = some ⟨oc_Field_init, od_Field_init, .func (PySem.W.fnOf "__init__" "Field.__init__" (defArgs s_Field_init) (defBody s_Field_init) (defScope s_Field_init) .none kV_Field_init dc_Field_init pm_Field_init an_Field_init cd_Field_init ct_Field_init), sl_Field_init⟩)
    (c_Field_init : PySem.W.codeIn K cd_Field_init "Field.__init__" = true)
    (k_Field_init : PySem.W.keepIn K (.ref f_Field_init) = true)
    (mk_Field : PySem.W.makesIn K c_Field = true)
    (kc_Field : PySem.W.keepIn K (.ref c_Field) = true)
    (a_Field_heap : PySem.W.findIn K (.ref c_Field) "heap" = some (some (.ref f_Field_heap)))
    (i_Field_heap : PySem.W.isFn K (.ref f_Field_heap) = true)
    (l_Field_heap : K.lookup f_Field_heap = some ⟨oc_Field_heap, od_Field_heap, .func (PySem.W.fnOf "heap" "Field.heap" (defArgs s_Field_heap) (defBody s_Field_heap) (defScope s_Field_heap) .none kV_Field_heap dc_Field_heap pm_Field_heap an_Field_heap cd_Field_heap ct_Field_heap), sl_Field_heap⟩)
    (c_Field_heap : PySem.W.codeIn K cd_Field_heap "Field.heap" = true)
    (k_Field_heap : PySem.W.keepIn K (.ref f_Field_heap) = true)
    (a_Field_put : PySem.W.findIn K (.ref c_Field) "put" = some (some (.ref f_Field_put)))
    (i_Field_put : PySem.W.isFn K (.ref f_Field_put) = true)
    (l_Field_put : K.lookup f_Field_put = some ⟨oc_Field_put, od_Field_put, .func (PySem.W.fnOf "put" "Field.put" (defArgs s_Field_put) (defBody s_Field_put) (defScope s_Field_put) .none kV_Field_put dc_Field_put pm_Field_put an_Field_put cd_Field_put ct_Field_put), sl_Field_put⟩)
    (c_Field_put : PySem.W.codeIn K cd_Field_put "Field.put" = true)
    (k_Field_put : PySem.W.keepIn K (.ref f_Field_put) = true)
    (a_Field_least : PySem.W.findIn K (.ref c_Field) "least" = some (some (.ref f_Field_least)))
    (i_Field_least : PySem.W.isFn K (.ref f_Field_least) = true)
    (l_Field_least : K.lookup f_Field_least = some ⟨oc_Field_least, od_Field_least, .func (PySem.W.fnOf "least" "Field.least" (defArgs s_Field_least) (defBody s_Field_least) (defScope s_Field_least) .none kV_Field_least dc_Field_least pm_Field_least an_Field_least cd_Field_least ct_Field_least), sl_Field_least⟩)
    (c_Field_least : PySem.W.codeIn K cd_Field_least "Field.least" = true)
    (k_Field_least : PySem.W.keepIn K (.ref f_Field_least) = true)
    (a_Field_take : PySem.W.findIn K (.ref c_Field) "take" = some (some (.ref f_Field_take)))
    (i_Field_take : PySem.W.isFn K (.ref f_Field_take) = true)
    (l_Field_take : K.lookup f_Field_take = some ⟨oc_Field_take, od_Field_take, .func (PySem.W.fnOf "take" "Field.take" (defArgs s_Field_take) (defBody s_Field_take) (defScope s_Field_take) .none kV_Field_take dc_Field_take pm_Field_take an_Field_take cd_Field_take ct_Field_take), sl_Field_take⟩)
    (c_Field_take : PySem.W.codeIn K cd_Field_take "Field.take" = true)
    (k_Field_take : PySem.W.keepIn K (.ref f_Field_take) = true)
    (a_Field_pour : PySem.W.findIn K (.ref c_Field) "pour" = some (some (.ref f_Field_pour)))
    (i_Field_pour : PySem.W.isFn K (.ref f_Field_pour) = true)
    (l_Field_pour : K.lookup f_Field_pour = some ⟨oc_Field_pour, od_Field_pour, .func (PySem.W.fnOf "pour" "Field.pour" (defArgs s_Field_pour) (defBody s_Field_pour) (defScope s_Field_pour) .none kV_Field_pour dc_Field_pour pm_Field_pour an_Field_pour cd_Field_pour ct_Field_pour), sl_Field_pour⟩)
    (c_Field_pour : PySem.W.codeIn K cd_Field_pour "Field.pour" = true)
    (k_Field_pour : PySem.W.keepIn K (.ref f_Field_pour) = true)
    (a_Field_sink : PySem.W.findIn K (.ref c_Field) "sink" = some (some (.ref f_Field_sink)))
    (i_Field_sink : PySem.W.isFn K (.ref f_Field_sink) = true)
    (l_Field_sink : K.lookup f_Field_sink = some ⟨oc_Field_sink, od_Field_sink, .func (PySem.W.fnOf "sink" "Field.sink" (defArgs s_Field_sink) (defBody s_Field_sink) (defScope s_Field_sink) .none kV_Field_sink dc_Field_sink pm_Field_sink an_Field_sink cd_Field_sink ct_Field_sink), sl_Field_sink⟩)
    (c_Field_sink : PySem.W.codeIn K cd_Field_sink "Field.sink" = true)
    (k_Field_sink : PySem.W.keepIn K (.ref f_Field_sink) = true)
    (a_Field_things : PySem.W.findIn K (.ref c_Field) "things" = some (some (.ref f_Field_things)))
    (i_Field_things : PySem.W.isFn K (.ref f_Field_things) = true)
    (l_Field_things : K.lookup f_Field_things = some ⟨oc_Field_things, od_Field_things, .func (PySem.W.fnOf "things" "Field.things" (defArgs s_Field_things) (defBody s_Field_things) (defScope s_Field_things) .none kV_Field_things dc_Field_things pm_Field_things an_Field_things cd_Field_things ct_Field_things), sl_Field_things⟩)
    (c_Field_things : PySem.W.codeIn K cd_Field_things "Field.things" = true)
    (k_Field_things : PySem.W.keepIn K (.ref f_Field_things) = true)
    (a_Field_tree : PySem.W.findIn K (.ref c_Field) "tree" = some (some (.ref f_Field_tree)))
    (i_Field_tree : PySem.W.isFn K (.ref f_Field_tree) = true)
    (l_Field_tree : K.lookup f_Field_tree = some ⟨oc_Field_tree, od_Field_tree, .func (PySem.W.fnOf "tree" "Field.tree" (defArgs s_Field_tree) (defBody s_Field_tree) (defScope s_Field_tree) .none kV_Field_tree dc_Field_tree pm_Field_tree an_Field_tree cd_Field_tree ct_Field_tree), sl_Field_tree⟩)
    (c_Field_tree : PySem.W.codeIn K cd_Field_tree "Field.tree" = true)
    (k_Field_tree : PySem.W.keepIn K (.ref f_Field_tree) = true)
    (a_Field_work : PySem.W.findIn K (.ref c_Field) "work" = some (some (.ref f_Field_work)))
    (i_Field_work : PySem.W.isFn K (.ref f_Field_work) = true)
    (l_Field_work : K.lookup f_Field_work = some ⟨oc_Field_work, od_Field_work, .func (PySem.W.fnOf "work" "Field.work" (defArgs s_Field_work) (defBody s_Field_work) (defScope s_Field_work) .none kV_Field_work dc_Field_work pm_Field_work an_Field_work cd_Field_work ct_Field_work), sl_Field_work⟩)
    (c_Field_work : PySem.W.codeIn K cd_Field_work "Field.work" = true)
    (k_Field_work : PySem.W.keepIn K (.ref f_Field_work) = true)
    (a_Field_plant : PySem.W.findIn K (.ref c_Field) "_plant" = some (some (.ref f_Field_plant)))
    (i_Field_plant : PySem.W.isFn K (.ref f_Field_plant) = true)
    (l_Field_plant : K.lookup f_Field_plant = some ⟨oc_Field_plant, od_Field_plant, .func (PySem.W.fnOf "_plant" "Field._plant" (defArgs s_Field_plant) (defBody s_Field_plant) (defScope s_Field_plant) .none kV_Field_plant dc_Field_plant pm_Field_plant an_Field_plant cd_Field_plant ct_Field_plant), sl_Field_plant⟩)
    (c_Field_plant : PySem.W.codeIn K cd_Field_plant "Field._plant" = true)
    (k_Field_plant : PySem.W.keepIn K (.ref f_Field_plant) = true)
    (a_Field_check_heap : PySem.W.findIn K (.ref c_Field) "_check_heap" = some (some (.ref f_Field_check_heap)))
    (i_Field_check_heap : PySem.W.isFn K (.ref f_Field_check_heap) = true)
    (l_Field_check_heap : K.lookup f_Field_check_heap = some ⟨oc_Field_check_heap, od_Field_check_heap, .func (PySem.W.fnOf "_check_heap" "Field._check_heap" (defArgs s_Field_check_heap) (defBody s_Field_check_heap) (defScope s_Field_check_heap) .none kV_Field_check_heap dc_Field_check_heap pm_Field_check_heap an_Field_check_heap cd_Field_check_heap ct_Field_check_heap), sl_Field_check_heap⟩)
    (c_Field_check_heap : PySem.W.codeIn K cd_Field_check_heap "Field._check_heap" = true)
    (k_Field_check_heap : PySem.W.keepIn K (.ref f_Field_check_heap) = true)
    (a_Field_top : PySem.W.findIn K (.ref c_Field) "_top" = some (some (.ref f_Field_top)))
    (i_Field_top : PySem.W.isFn K (.ref f_Field_top) = true)
    (l_Field_top : K.lookup f_Field_top = some ⟨oc_Field_top, od_Field_top, .func (PySem.W.fnOf "_top" "Field._top" (defArgs s_Field_top) (defBody s_Field_top) (defScope s_Field_top) .none kV_Field_top dc_Field_top pm_Field_top an_Field_top cd_Field_top ct_Field_top), sl_Field_top⟩)
    (c_Field_top : PySem.W.codeIn K cd_Field_top "Field._top" = true)
    (k_Field_top : PySem.W.keepIn K (.ref f_Field_top) = true)
    (a_Field_node : PySem.W.findIn K (.ref c_Field) "_node" = some (some (.ref f_Field_node)))
    (i_Field_node : PySem.W.isFn K (.ref f_Field_node) = true)
    (l_Field_node : K.lookup f_Field_node = some ⟨oc_Field_node, od_Field_node, .func (PySem.W.fnOf "_node" "Field._node" (defArgs s_Field_node) (defBody s_Field_node) (defScope s_Field_node) .none kV_Field_node dc_Field_node pm_Field_node an_Field_node cd_Field_node ct_Field_node), sl_Field_node⟩)
    (c_Field_node : PySem.W.codeIn K cd_Field_node "Field._node" = true)
    (k_Field_node : PySem.W.keepIn K (.ref f_Field_node) = true)
    (a_l_cell : PySem.W.nsIn K mainGlobals "_law_cell" = some (some (.ref f_l_cell)))
    (l_l_cell : K.lookup f_l_cell = some ⟨oc_l_cell, od_l_cell, .func (PySem.W.fnOf "_law_cell" "_law_cell" (defArgs s_l_cell) (defBody s_l_cell) (defScope s_l_cell) .none kV_l_cell dc_l_cell pm_l_cell an_l_cell cd_l_cell ct_l_cell), sl_l_cell⟩)
    (c_l_cell : PySem.W.codeIn K cd_l_cell "_law_cell" = true)
    (k_l_cell : PySem.W.keepIn K (.ref f_l_cell) = true)
    (a_l_weight : PySem.W.nsIn K mainGlobals "_law_weight" = some (some (.ref f_l_weight)))
    (l_l_weight : K.lookup f_l_weight = some ⟨oc_l_weight, od_l_weight, .func (PySem.W.fnOf "_law_weight" "_law_weight" (defArgs s_l_weight) (defBody s_l_weight) (defScope s_l_weight) .none kV_l_weight dc_l_weight pm_l_weight an_l_weight cd_l_weight ct_l_weight), sl_l_weight⟩)
    (c_l_weight : PySem.W.codeIn K cd_l_weight "_law_weight" = true)
    (k_l_weight : PySem.W.keepIn K (.ref f_l_weight) = true)
    (a_l_noted : PySem.W.nsIn K mainGlobals "_law_noted" = some (some (.ref f_l_noted)))
    (l_l_noted : K.lookup f_l_noted = some ⟨oc_l_noted, od_l_noted, .func (PySem.W.fnOf "_law_noted" "_law_noted" (defArgs s_l_noted) (defBody s_l_noted) (defScope s_l_noted) .none kV_l_noted dc_l_noted pm_l_noted an_l_noted cd_l_noted ct_l_noted), sl_l_noted⟩)
    (c_l_noted : PySem.W.codeIn K cd_l_noted "_law_noted" = true)
    (k_l_noted : PySem.W.keepIn K (.ref f_l_noted) = true)
    (a_l_run : PySem.W.nsIn K mainGlobals "_law_run" = some (some (.ref f_l_run)))
    (l_l_run : K.lookup f_l_run = some ⟨oc_l_run, od_l_run, .func (PySem.W.fnOf "_law_run" "_law_run" (defArgs s_l_run) (defBody s_l_run) (defScope s_l_run) .none kV_l_run dc_l_run pm_l_run an_l_run cd_l_run ct_l_run), sl_l_run⟩)
    (c_l_run : PySem.W.codeIn K cd_l_run "_law_run" = true)
    (k_l_run : PySem.W.keepIn K (.ref f_l_run) = true)
    (a_l_sided : PySem.W.nsIn K mainGlobals "_law_sided" = some (some (.ref f_l_sided)))
    (l_l_sided : K.lookup f_l_sided = some ⟨oc_l_sided, od_l_sided, .func (PySem.W.fnOf "_law_sided" "_law_sided" (defArgs s_l_sided) (defBody s_l_sided) (defScope s_l_sided) .none kV_l_sided dc_l_sided pm_l_sided an_l_sided cd_l_sided ct_l_sided), sl_l_sided⟩)
    (c_l_sided : PySem.W.codeIn K cd_l_sided "_law_sided" = true)
    (k_l_sided : PySem.W.keepIn K (.ref f_l_sided) = true)
    (a_l_joined : PySem.W.nsIn K mainGlobals "_law_joined" = some (some (.ref f_l_joined)))
    (l_l_joined : K.lookup f_l_joined = some ⟨oc_l_joined, od_l_joined, .func (PySem.W.fnOf "_law_joined" "_law_joined" (defArgs s_l_joined) (defBody s_l_joined) (defScope s_l_joined) .none kV_l_joined dc_l_joined pm_l_joined an_l_joined cd_l_joined ct_l_joined), sl_l_joined⟩)
    (c_l_joined : PySem.W.codeIn K cd_l_joined "_law_joined" = true)
    (k_l_joined : PySem.W.keepIn K (.ref f_l_joined) = true)
    (a_l_above : PySem.W.nsIn K mainGlobals "_law_above" = some (some (.ref f_l_above)))
    (l_l_above : K.lookup f_l_above = some ⟨oc_l_above, od_l_above, .func (PySem.W.fnOf "_law_above" "_law_above" (defArgs s_l_above) (defBody s_l_above) (defScope s_l_above) .none kV_l_above dc_l_above pm_l_above an_l_above cd_l_above ct_l_above), sl_l_above⟩)
    (c_l_above : PySem.W.codeIn K cd_l_above "_law_above" = true)
    (k_l_above : PySem.W.keepIn K (.ref f_l_above) = true)
    (a_l_sunk : PySem.W.nsIn K mainGlobals "_law_sunk" = some (some (.ref f_l_sunk)))
    (l_l_sunk : K.lookup f_l_sunk = some ⟨oc_l_sunk, od_l_sunk, .func (PySem.W.fnOf "_law_sunk" "_law_sunk" (defArgs s_l_sunk) (defBody s_l_sunk) (defScope s_l_sunk) .none kV_l_sunk dc_l_sunk pm_l_sunk an_l_sunk cd_l_sunk ct_l_sunk), sl_l_sunk⟩)
    (c_l_sunk : PySem.W.codeIn K cd_l_sunk "_law_sunk" = true)
    (k_l_sunk : PySem.W.keepIn K (.ref f_l_sunk) = true)
    (a_l_told : PySem.W.nsIn K mainGlobals "_law_told" = some (some (.ref f_l_told)))
    (l_l_told : K.lookup f_l_told = some ⟨oc_l_told, od_l_told, .func (PySem.W.fnOf "_law_told" "_law_told" (defArgs s_l_told) (defBody s_l_told) (defScope s_l_told) .none kV_l_told dc_l_told pm_l_told an_l_told cd_l_told ct_l_told), sl_l_told⟩)
    (c_l_told : PySem.W.codeIn K cd_l_told "_law_told" = true)
    (k_l_told : PySem.W.keepIn K (.ref f_l_told) = true)
    (a_l_top : PySem.W.nsIn K mainGlobals "_law_top" = some (some (.ref f_l_top)))
    (l_l_top : K.lookup f_l_top = some ⟨oc_l_top, od_l_top, .func (PySem.W.fnOf "_law_top" "_law_top" (defArgs s_l_top) (defBody s_l_top) (defScope s_l_top) .none kV_l_top dc_l_top pm_l_top an_l_top cd_l_top ct_l_top), sl_l_top⟩)
    (c_l_top : PySem.W.codeIn K cd_l_top "_law_top" = true)
    (k_l_top : PySem.W.keepIn K (.ref f_l_top) = true)
    (a_l_due : PySem.W.nsIn K mainGlobals "_law_due" = some (some (.ref f_l_due)))
    (l_l_due : K.lookup f_l_due = some ⟨oc_l_due, od_l_due, .func (PySem.W.fnOf "_law_due" "_law_due" (defArgs s_l_due) (defBody s_l_due) (defScope s_l_due) .none kV_l_due dc_l_due pm_l_due an_l_due cd_l_due ct_l_due), sl_l_due⟩)
    (c_l_due : PySem.W.codeIn K cd_l_due "_law_due" = true)
    (k_l_due : PySem.W.keepIn K (.ref f_l_due) = true)
    (a_l_done : PySem.W.nsIn K mainGlobals "_law_done" = some (some (.ref f_l_done)))
    (l_l_done : K.lookup f_l_done = some ⟨oc_l_done, od_l_done, .func (PySem.W.fnOf "_law_done" "_law_done" (defArgs s_l_done) (defBody s_l_done) (defScope s_l_done) .none kV_l_done dc_l_done pm_l_done an_l_done cd_l_done ct_l_done), sl_l_done⟩)
    (c_l_done : PySem.W.codeIn K cd_l_done "_law_done" = true)
    (k_l_done : PySem.W.keepIn K (.ref f_l_done) = true)
    (a_law : PySem.W.nsIn K mainGlobals "law" = some (some (.ref f_law)))
    (l_law : K.lookup f_law = some ⟨oc_law, od_law, .func (PySem.W.fnOf "law" "law" (defArgs s_law) (defBody s_law) (defScope s_law) .none kV_law dc_law pm_law an_law cd_law ct_law), sl_law⟩)
    (c_law : PySem.W.codeIn K cd_law "law" = true)
    (k_law : PySem.W.keepIn K (.ref f_law) = true)
    (z_ValueError : PySem.W.nsIn K mainGlobals "ValueError" = some none)
    (z_len : PySem.W.nsIn K mainGlobals "len" = some none)
    (z_list : PySem.W.nsIn K mainGlobals "list" = some none)
    (z_min : PySem.W.nsIn K mainGlobals "min" = some none)
    (z_range : PySem.W.nsIn K mainGlobals "range" = some none)
    : ∃ fd : FuncData, (∀ (s : Shared) (v : Value), BindsTo s fd ⟨[v], []⟩ [("_law_script", v)]) ∧ ∀ base : Heap, K.In base → base.Ns mainGlobals mg → FnOk l.prog w K mg base CX0 30 fa fd ["_law_script"] (sp_law K) := by
  have e := hfa.symm.trans (PySem.W.mg_of X G a_law)
  cases e
  have F_Node_init := fun_mk (st := s_Node_init) l_Node_init c_Node_init k_Node_init
  have b_Node_init := F_Node_init.binds (ps := ["self", "thing", "weight", "home"]) fun _ _ _ _ _ _ us hl => match us, hl with | [_, _, _, _], _ => rfl
  have F_lesser := fun_mk (st := s_lesser) l_lesser c_lesser k_lesser
  have b_lesser := F_lesser.binds (ps := ["one", "other"]) fun _ _ _ _ _ _ us hl => match us, hl with | [_, _], _ => rfl
  have F_run_of := fun_mk (st := s_run_of) l_run_of c_run_of k_run_of
  have b_run_of := F_run_of.binds (ps := ["top"]) fun _ _ _ _ _ _ us hl => match us, hl with | [_], _ => rfl
  have F_thing_of := fun_mk (st := s_thing_of) l_thing_of c_thing_of k_thing_of
  have b_thing_of := F_thing_of.binds (ps := ["top"]) fun _ _ _ _ _ _ us hl => match us, hl with | [_], _ => rfl
  have F_settle := fun_mk (st := s_settle) l_settle c_settle k_settle
  have b_settle := F_settle.binds (ps := ["node"]) fun _ _ _ _ _ _ us hl => match us, hl with | [_], _ => rfl
  have F_meet := fun_mk (st := s_meet) l_meet c_meet k_meet
  have b_meet := F_meet.binds (ps := ["one", "other"]) fun _ _ _ _ _ _ us hl => match us, hl with | [_, _], _ => rfl
  have F_joined := fun_mk (st := s_joined) l_joined c_joined k_joined
  have b_joined := F_joined.binds (ps := ["one", "other"]) fun _ _ _ _ _ _ us hl => match us, hl with | [_, _], _ => rfl
  have F_cut_out := fun_mk (st := s_cut_out) l_cut_out c_cut_out k_cut_out
  have b_cut_out := F_cut_out.binds (ps := ["node"]) fun _ _ _ _ _ _ us hl => match us, hl with | [_], _ => rfl
  have F_in_order := fun_mk (st := s_in_order) l_in_order c_in_order k_in_order
  have b_in_order := F_in_order.binds (ps := ["top"]) fun _ _ _ _ _ _ us hl => match us, hl with | [_], _ => rfl
  have F_Field_init := fun_mk (st := s_Field_init) l_Field_init c_Field_init k_Field_init
  have b_Field_init := F_Field_init.binds (ps := ["self"]) fun _ _ _ _ _ _ us hl => match us, hl with | [_], _ => rfl
  have F_Field_heap := fun_mk (st := s_Field_heap) l_Field_heap c_Field_heap k_Field_heap
  have b_Field_heap := F_Field_heap.binds (ps := ["self"]) fun _ _ _ _ _ _ us hl => match us, hl with | [_], _ => rfl
  have F_Field_put := fun_mk (st := s_Field_put) l_Field_put c_Field_put k_Field_put
  have b_Field_put := F_Field_put.binds (ps := ["self", "heap", "weight"]) fun _ _ _ _ _ _ us hl => match us, hl with | [_, _, _], _ => rfl
  have F_Field_least := fun_mk (st := s_Field_least) l_Field_least c_Field_least k_Field_least
  have b_Field_least := F_Field_least.binds (ps := ["self", "heap"]) fun _ _ _ _ _ _ us hl => match us, hl with | [_, _], _ => rfl
  have F_Field_take := fun_mk (st := s_Field_take) l_Field_take c_Field_take k_Field_take
  have b_Field_take := F_Field_take.binds (ps := ["self", "heap"]) fun _ _ _ _ _ _ us hl => match us, hl with | [_, _], _ => rfl
  have F_Field_pour := fun_mk (st := s_Field_pour) l_Field_pour c_Field_pour k_Field_pour
  have b_Field_pour := F_Field_pour.binds (ps := ["self", "heap", "other"]) fun _ _ _ _ _ _ us hl => match us, hl with | [_, _, _], _ => rfl
  have F_Field_sink := fun_mk (st := s_Field_sink) l_Field_sink c_Field_sink k_Field_sink
  have b_Field_sink := F_Field_sink.binds (ps := ["self", "thing", "weight"]) fun _ _ _ _ _ _ us hl => match us, hl with | [_, _, _], _ => rfl
  have F_Field_things := fun_mk (st := s_Field_things) l_Field_things c_Field_things k_Field_things
  have b_Field_things := F_Field_things.binds (ps := ["self", "heap"]) fun _ _ _ _ _ _ us hl => match us, hl with | [_, _], _ => rfl
  have F_Field_tree := fun_mk (st := s_Field_tree) l_Field_tree c_Field_tree k_Field_tree
  have b_Field_tree := F_Field_tree.binds (ps := ["self", "heap"]) fun _ _ _ _ _ _ us hl => match us, hl with | [_, _], _ => rfl
  have F_Field_work := fun_mk (st := s_Field_work) l_Field_work c_Field_work k_Field_work
  have b_Field_work := F_Field_work.binds (ps := ["self"]) fun _ _ _ _ _ _ us hl => match us, hl with | [_], _ => rfl
  have F_Field_plant := fun_mk (st := s_Field_plant) l_Field_plant c_Field_plant k_Field_plant
  have b_Field_plant := F_Field_plant.binds (ps := ["self", "heap", "one", "other"]) fun _ _ _ _ _ _ us hl => match us, hl with | [_, _, _, _], _ => rfl
  have F_Field_check_heap := fun_mk (st := s_Field_check_heap) l_Field_check_heap c_Field_check_heap k_Field_check_heap
  have b_Field_check_heap := F_Field_check_heap.binds (ps := ["self", "heap"]) fun _ _ _ _ _ _ us hl => match us, hl with | [_, _], _ => rfl
  have F_Field_top := fun_mk (st := s_Field_top) l_Field_top c_Field_top k_Field_top
  have b_Field_top := F_Field_top.binds (ps := ["self", "heap"]) fun _ _ _ _ _ _ us hl => match us, hl with | [_, _], _ => rfl
  have F_Field_node := fun_mk (st := s_Field_node) l_Field_node c_Field_node k_Field_node
  have b_Field_node := F_Field_node.binds (ps := ["self", "thing"]) fun _ _ _ _ _ _ us hl => match us, hl with | [_, _], _ => rfl
  have F_l_cell := fun_mk (st := s_l_cell) l_l_cell c_l_cell k_l_cell
  have b_l_cell := F_l_cell.binds (ps := ["_law_script", "_law_k"]) fun _ _ _ _ _ _ us hl => match us, hl with | [_, _], _ => rfl
  have F_l_weight := fun_mk (st := s_l_weight) l_l_weight c_l_weight k_l_weight
  have b_l_weight := F_l_weight.binds (ps := ["_law_cell_here", "_law_k"]) fun _ _ _ _ _ _ us hl => match us, hl with | [_, _], _ => rfl
  have F_l_noted := fun_mk (st := s_l_noted) l_l_noted c_l_noted k_l_noted
  have b_l_noted := F_l_noted.binds (ps := ["_law_notes", "_law_rows"]) fun _ _ _ _ _ _ us hl => match us, hl with | [_, _], _ => rfl
  have F_l_run := fun_mk (st := s_l_run) l_l_run c_l_run k_l_run
  have b_l_run := F_l_run.binds (ps := ["_law_notes", "_law_part"]) fun _ _ _ _ _ _ us hl => match us, hl with | [_, _], _ => rfl
  have F_l_sided := fun_mk (st := s_l_sided) l_l_sided c_l_sided k_l_sided
  have b_l_sided := F_l_sided.binds (ps := ["_law_notes", "_law_thing"]) fun _ _ _ _ _ _ us hl => match us, hl with | [_, _], _ => rfl
  have F_l_joined := fun_mk (st := s_l_joined) l_l_joined c_l_joined k_l_joined
  have b_l_joined := F_l_joined.binds (ps := ["_law_notes", "_law_one", "_law_other"]) fun _ _ _ _ _ _ us hl => match us, hl with | [_, _, _], _ => rfl
  have F_l_above := fun_mk (st := s_l_above) l_l_above c_l_above k_l_above
  have b_l_above := F_l_above.binds (ps := ["_law_notes", "_law_thing"]) fun _ _ _ _ _ _ us hl => match us, hl with | [_, _], _ => rfl
  have F_l_sunk := fun_mk (st := s_l_sunk) l_l_sunk c_l_sunk k_l_sunk
  have b_l_sunk := F_l_sunk.binds (ps := ["_law_notes", "_law_top_here", "_law_thing", "_law_weight_here"]) fun _ _ _ _ _ _ us hl => match us, hl with | [_, _, _, _], _ => rfl
  have F_l_told := fun_mk (st := s_l_told) l_l_told c_l_told k_l_told
  have b_l_told := F_l_told.binds (ps := ["_law_notes", "_law_top_here"]) fun _ _ _ _ _ _ us hl => match us, hl with | [_, _], _ => rfl
  have F_l_top := fun_mk (st := s_l_top) l_l_top c_l_top k_l_top
  have b_l_top := F_l_top.binds (ps := ["_law_rows"]) fun _ _ _ _ _ _ us hl => match us, hl with | [_], _ => rfl
  have F_l_due := fun_mk (st := s_l_due) l_l_due c_l_due k_l_due
  have b_l_due := F_l_due.binds (ps := ["_law_field", "_law_heaps", "_law_notes", "_law_rows", "_law_cell_here", "_law_more"]) fun _ _ _ _ _ _ us hl => match us, hl with | [_, _, _, _, _, _], _ => rfl
  have F_l_done := fun_mk (st := s_l_done) l_l_done c_l_done k_l_done
  have b_l_done := F_l_done.binds (ps := ["_law_field", "_law_heap", "_law_other", "_law_kind", "_law_more", "_law_k"]) fun _ _ _ _ _ _ us hl => match us, hl with | [_, _, _, _, _, _], _ => rfl
  have F_law := fun_mk (st := s_law) l_law c_law k_law
  have b_law := F_law.binds (ps := ["_law_script"]) fun _ _ _ _ _ _ us hl => match us, hl with | [_], _ => rfl
  let T : Txt K mg := {
    c_Node := c_Node
    cl_Node := ⟨pg_Node, hd_Node, po_Node, sa_Node⟩
    gC_Node := PySem.W.mg_of X G q_Node
    n_Node_thing := n_Node_thing
    n_Node_weight := n_Node_weight
    n_Node_home := n_Node_home
    n_Node_above := n_Node_above
    n_Node_left := n_Node_left
    n_Node_right := n_Node_right
    n_Node_run := n_Node_run
    pe_Node := ⟨ob_Node, eq_Node, no_Node⟩
    c_Field := c_Field
    cl_Field := ⟨pg_Field, hd_Field, po_Field, sa_Field⟩
    gC_Field := PySem.W.mg_of X G q_Field
    n_Field_tops := n_Field_tops
    n_Field_nodes := n_Field_nodes
    n_Field_work := n_Field_work
    e_HeapError := e_HeapError
    xHeapError := x_HeapError
    gHeapError := PySem.W.mg_of X G q_HeapError
    kHeapError := k_HeapError
    bHeapError := b_HeapError
    tHeapError := t_HeapError
    e_NoHeap := e_NoHeap
    xNoHeap := x_NoHeap
    gNoHeap := PySem.W.mg_of X G q_NoHeap
    kNoHeap := k_NoHeap
    bNoHeap := b_NoHeap
    tNoHeap := t_NoHeap
    e_NoThing := e_NoThing
    xNoThing := x_NoThing
    gNoThing := PySem.W.mg_of X G q_NoThing
    kNoThing := k_NoThing
    bNoThing := b_NoThing
    tNoThing := t_NoThing
    e_Bare := e_Bare
    xBare := x_Bare
    gBare := PySem.W.mg_of X G q_Bare
    kBare := k_Bare
    bBare := b_Bare
    tBare := t_Bare
    e_Same := e_Same
    xSame := x_Same
    gSame := PySem.W.mg_of X G q_Same
    kSame := k_Same
    bSame := b_Same
    tSame := t_Same
    e_Heavier := e_Heavier
    xHeavier := x_Heavier
    gHeavier := PySem.W.mg_of X G q_Heavier
    kHeavier := k_Heavier
    bHeavier := b_Heavier
    tHeavier := t_Heavier
    a_Node_init := f_Node_init
    d_Node_init := _
    F_Node_init := F_Node_init
    b_Node_init := b_Node_init
    mk_Node := ⟨mk_Node, a_Node_init, i_Node_init, kc_Node⟩
    a_lesser := f_lesser
    d_lesser := _
    F_lesser := F_lesser
    b_lesser := b_lesser
    g_lesser := PySem.W.mg_of X G a_lesser
    a_run_of := f_run_of
    d_run_of := _
    F_run_of := F_run_of
    b_run_of := b_run_of
    g_run_of := PySem.W.mg_of X G a_run_of
    a_thing_of := f_thing_of
    d_thing_of := _
    F_thing_of := F_thing_of
    b_thing_of := b_thing_of
    g_thing_of := PySem.W.mg_of X G a_thing_of
    a_settle := f_settle
    d_settle := _
    F_settle := F_settle
    b_settle := b_settle
    g_settle := PySem.W.mg_of X G a_settle
    a_meet := f_meet
    d_meet := _
    F_meet := F_meet
    b_meet := b_meet
    g_meet := PySem.W.mg_of X G a_meet
    a_joined := f_joined
    d_joined := _
    F_joined := F_joined
    b_joined := b_joined
    g_joined := PySem.W.mg_of X G a_joined
    a_cut_out := f_cut_out
    d_cut_out := _
    F_cut_out := F_cut_out
    b_cut_out := b_cut_out
    g_cut_out := PySem.W.mg_of X G a_cut_out
    a_in_order := f_in_order
    d_in_order := _
    F_in_order := F_in_order
    b_in_order := b_in_order
    g_in_order := PySem.W.mg_of X G a_in_order
    a_Field_init := f_Field_init
    d_Field_init := _
    F_Field_init := F_Field_init
    b_Field_init := b_Field_init
    mk_Field := ⟨mk_Field, a_Field_init, i_Field_init, kc_Field⟩
    a_Field_heap := f_Field_heap
    d_Field_heap := _
    F_Field_heap := F_Field_heap
    b_Field_heap := b_Field_heap
    m_Field_heap := ⟨a_Field_heap, i_Field_heap, k_Field_heap⟩
    a_Field_put := f_Field_put
    d_Field_put := _
    F_Field_put := F_Field_put
    b_Field_put := b_Field_put
    m_Field_put := ⟨a_Field_put, i_Field_put, k_Field_put⟩
    a_Field_least := f_Field_least
    d_Field_least := _
    F_Field_least := F_Field_least
    b_Field_least := b_Field_least
    m_Field_least := ⟨a_Field_least, i_Field_least, k_Field_least⟩
    a_Field_take := f_Field_take
    d_Field_take := _
    F_Field_take := F_Field_take
    b_Field_take := b_Field_take
    m_Field_take := ⟨a_Field_take, i_Field_take, k_Field_take⟩
    a_Field_pour := f_Field_pour
    d_Field_pour := _
    F_Field_pour := F_Field_pour
    b_Field_pour := b_Field_pour
    m_Field_pour := ⟨a_Field_pour, i_Field_pour, k_Field_pour⟩
    a_Field_sink := f_Field_sink
    d_Field_sink := _
    F_Field_sink := F_Field_sink
    b_Field_sink := b_Field_sink
    m_Field_sink := ⟨a_Field_sink, i_Field_sink, k_Field_sink⟩
    a_Field_things := f_Field_things
    d_Field_things := _
    F_Field_things := F_Field_things
    b_Field_things := b_Field_things
    m_Field_things := ⟨a_Field_things, i_Field_things, k_Field_things⟩
    a_Field_tree := f_Field_tree
    d_Field_tree := _
    F_Field_tree := F_Field_tree
    b_Field_tree := b_Field_tree
    m_Field_tree := ⟨a_Field_tree, i_Field_tree, k_Field_tree⟩
    a_Field_work := f_Field_work
    d_Field_work := _
    F_Field_work := F_Field_work
    b_Field_work := b_Field_work
    m_Field_work := ⟨a_Field_work, i_Field_work, k_Field_work⟩
    a_Field_plant := f_Field_plant
    d_Field_plant := _
    F_Field_plant := F_Field_plant
    b_Field_plant := b_Field_plant
    m_Field_plant := ⟨a_Field_plant, i_Field_plant, k_Field_plant⟩
    a_Field_check_heap := f_Field_check_heap
    d_Field_check_heap := _
    F_Field_check_heap := F_Field_check_heap
    b_Field_check_heap := b_Field_check_heap
    m_Field_check_heap := ⟨a_Field_check_heap, i_Field_check_heap, k_Field_check_heap⟩
    a_Field_top := f_Field_top
    d_Field_top := _
    F_Field_top := F_Field_top
    b_Field_top := b_Field_top
    m_Field_top := ⟨a_Field_top, i_Field_top, k_Field_top⟩
    a_Field_node := f_Field_node
    d_Field_node := _
    F_Field_node := F_Field_node
    b_Field_node := b_Field_node
    m_Field_node := ⟨a_Field_node, i_Field_node, k_Field_node⟩
    a_l_cell := f_l_cell
    d_l_cell := _
    F_l_cell := F_l_cell
    b_l_cell := b_l_cell
    g_l_cell := PySem.W.mg_of X G a_l_cell
    a_l_weight := f_l_weight
    d_l_weight := _
    F_l_weight := F_l_weight
    b_l_weight := b_l_weight
    g_l_weight := PySem.W.mg_of X G a_l_weight
    a_l_noted := f_l_noted
    d_l_noted := _
    F_l_noted := F_l_noted
    b_l_noted := b_l_noted
    g_l_noted := PySem.W.mg_of X G a_l_noted
    a_l_run := f_l_run
    d_l_run := _
    F_l_run := F_l_run
    b_l_run := b_l_run
    g_l_run := PySem.W.mg_of X G a_l_run
    a_l_sided := f_l_sided
    d_l_sided := _
    F_l_sided := F_l_sided
    b_l_sided := b_l_sided
    g_l_sided := PySem.W.mg_of X G a_l_sided
    a_l_joined := f_l_joined
    d_l_joined := _
    F_l_joined := F_l_joined
    b_l_joined := b_l_joined
    g_l_joined := PySem.W.mg_of X G a_l_joined
    a_l_above := f_l_above
    d_l_above := _
    F_l_above := F_l_above
    b_l_above := b_l_above
    g_l_above := PySem.W.mg_of X G a_l_above
    a_l_sunk := f_l_sunk
    d_l_sunk := _
    F_l_sunk := F_l_sunk
    b_l_sunk := b_l_sunk
    g_l_sunk := PySem.W.mg_of X G a_l_sunk
    a_l_told := f_l_told
    d_l_told := _
    F_l_told := F_l_told
    b_l_told := b_l_told
    g_l_told := PySem.W.mg_of X G a_l_told
    a_l_top := f_l_top
    d_l_top := _
    F_l_top := F_l_top
    b_l_top := b_l_top
    g_l_top := PySem.W.mg_of X G a_l_top
    a_l_due := f_l_due
    d_l_due := _
    F_l_due := F_l_due
    b_l_due := b_l_due
    g_l_due := PySem.W.mg_of X G a_l_due
    a_l_done := f_l_done
    d_l_done := _
    F_l_done := F_l_done
    b_l_done := b_l_done
    g_l_done := PySem.W.mg_of X G a_l_done
    a_law := fa
    d_law := _
    F_law := F_law
    b_law := b_law
    g_law := PySem.W.mg_of X G a_law
    z_ValueError := PySem.W.mg_none_of X G z_ValueError
    z_len := PySem.W.mg_none_of X G z_len
    z_list := PySem.W.mg_none_of X G z_list
    z_min := PySem.W.mg_none_of X G z_min
    z_range := PySem.W.mg_none_of X G z_range }
  exact ⟨_, fun s v => .of_eq rfl, fun base _ _ => ok_law T⟩
theorem walk {l : PySem.W.OpenLaw} {q : Program} {loose : List Str} {XP : (Str → Option Value) → Heap → Prop} {YP : World → Heap → Prop} {d : DefRec} {K : Params → PySem.W.Frag} (hn : l.most = some 63) (hdf : d.params.defaults = [])
    (hY : ∀ (w : World) (h : Heap), YP w h → (K w.params).In h)
    (F : ∀ (w : World) (mg : Str → Option Value) (fa : Addr) (h : Heap), (K w.params).In h → h.Ns mainGlobals mg → mg d.name = some (.ref fa) →
      ∃ fd : FuncData, (∀ (s : Shared) (u : Value), BindsTo s fd ⟨[u], []⟩ [("_law_script", u)]) ∧ ∀ base : Heap, (K w.params).In base → base.Ns mainGlobals mg → FnOk l.prog w (K w.params) mg base CX0 30 fa fd ["_law_script"] (sp_law (K w.params))) :
    PySem.W.WalkO q loose XP YP l.row.toRowW d [] (fun f vs => PySem.call f vs) :=
  L2.walk_ofB (n := 63) (k := 30) (x := "_law_script") (CX := fun _ => CX0) (sp := fun w => sp_law (K w.params)) hn (by decide) hdf ⟨rfl, by decide, by decide⟩ hY F (fun _ _ a ns hl hb _ hS => ⟨a, ns, rfl, hS, hl, hb, fun _ => rfl⟩) fun _ _ _ _ _ z => z
end Sp
open PySem PySem.W PyProof.Rows
set_option maxRecDepth 100000 in
set_option maxHeartbeats 0 in
theorem PySem.Challenge.cw_splitheap_k11_whole_work_holds : PySem.Challenge.rw_splitheap_k11_whole_work.Holds := by
  w_on; o_law; k_head; (case hw => w_witness2)
  k_fill
  refine Sp.walk (l := PySem.Challenge.rw_splitheap_k11_whole_work) rfl rfl (fun w h Y => PySem.W.kIn_of Y) ?F
  case F =>
    intro w mg fa h KX G hmg
    refine' Sp.all_mk KX G hmg ?q_Node ?pg_Node ?hd_Node ?po_Node ?sa_Node ?n_Node_thing ?n_Node_weight ?n_Node_home ?n_Node_above ?n_Node_left ?n_Node_right ?n_Node_run ?ob_Node ?eq_Node ?no_Node ?q_Field ?pg_Field ?hd_Field ?po_Field ?sa_Field ?n_Field_tops ?n_Field_nodes ?n_Field_work ?q_HeapError ?x_HeapError ?k_HeapError ?b_HeapError ?t_HeapError ?q_NoHeap ?x_NoHeap ?k_NoHeap ?b_NoHeap ?t_NoHeap ?q_NoThing ?x_NoThing ?k_NoThing ?b_NoThing ?t_NoThing ?q_Bare ?x_Bare ?k_Bare ?b_Bare ?t_Bare ?q_Same ?x_Same ?k_Same ?b_Same ?t_Same ?q_Heavier ?x_Heavier ?k_Heavier ?b_Heavier ?t_Heavier ?a_Node_init ?i_Node_init ?l_Node_init ?c_Node_init ?k_Node_init ?mk_Node ?kc_Node ?a_lesser ?l_lesser ?c_lesser ?k_lesser ?a_run_of ?l_run_of ?c_run_of ?k_run_of ?a_thing_of ?l_thing_of ?c_thing_of ?k_thing_of ?a_settle ?l_settle ?c_settle ?k_settle ?a_meet ?l_meet ?c_meet ?k_meet ?a_joined ?l_joined ?c_joined ?k_joined ?a_cut_out ?l_cut_out ?c_cut_out ?k_cut_out ?a_in_order ?l_in_order ?c_in_order ?k_in_order ?a_Field_init ?i_Field_init ?l_Field_init ?c_Field_init ?k_Field_init ?mk_Field ?kc_Field ?a_Field_heap ?i_Field_heap ?l_Field_heap ?c_Field_heap ?k_Field_heap ?a_Field_put ?i_Field_put ?l_Field_put ?c_Field_put ?k_Field_put ?a_Field_least ?i_Field_least ?l_Field_least ?c_Field_least ?k_Field_least ?a_Field_take ?i_Field_take ?l_Field_take ?c_Field_take ?k_Field_take ?a_Field_pour ?i_Field_pour ?l_Field_pour ?c_Field_pour ?k_Field_pour ?a_Field_sink ?i_Field_sink ?l_Field_sink ?c_Field_sink ?k_Field_sink ?a_Field_things ?i_Field_things ?l_Field_things ?c_Field_things ?k_Field_things ?a_Field_tree ?i_Field_tree ?l_Field_tree ?c_Field_tree ?k_Field_tree ?a_Field_work ?i_Field_work ?l_Field_work ?c_Field_work ?k_Field_work ?a_Field_plant ?i_Field_plant ?l_Field_plant ?c_Field_plant ?k_Field_plant ?a_Field_check_heap ?i_Field_check_heap ?l_Field_check_heap ?c_Field_check_heap ?k_Field_check_heap ?a_Field_top ?i_Field_top ?l_Field_top ?c_Field_top ?k_Field_top ?a_Field_node ?i_Field_node ?l_Field_node ?c_Field_node ?k_Field_node ?a_l_cell ?l_l_cell ?c_l_cell ?k_l_cell ?a_l_weight ?l_l_weight ?c_l_weight ?k_l_weight ?a_l_noted ?l_l_noted ?c_l_noted ?k_l_noted ?a_l_run ?l_l_run ?c_l_run ?k_l_run ?a_l_sided ?l_l_sided ?c_l_sided ?k_l_sided ?a_l_joined ?l_l_joined ?c_l_joined ?k_l_joined ?a_l_above ?l_l_above ?c_l_above ?k_l_above ?a_l_sunk ?l_l_sunk ?c_l_sunk ?k_l_sunk ?a_l_told ?l_l_told ?c_l_told ?k_l_told ?a_l_top ?l_l_top ?c_l_top ?k_l_top ?a_l_due ?l_l_due ?c_l_due ?k_l_due ?a_l_done ?l_l_done ?c_l_done ?k_l_done ?a_law ?l_law ?c_law ?k_law ?z_ValueError ?z_len ?z_list ?z_min ?z_range
    (case q_Node => k_is)
    (case pg_Node => k_is)
    (case hd_Node => k_is)
    (case po_Node => k_is)
    (case sa_Node => k_is)
    (case n_Node_thing => k_is)
    (case n_Node_weight => k_is)
    (case n_Node_home => k_is)
    (case n_Node_above => k_is)
    (case n_Node_left => k_is)
    (case n_Node_right => k_is)
    (case n_Node_run => k_is)
    (case ob_Node => k_is)
    (case eq_Node => k_is)
    (case no_Node => k_is)
    (case q_Field => k_is)
    (case pg_Field => k_is)
    (case hd_Field => k_is)
    (case po_Field => k_is)
    (case sa_Field => k_is)
    (case n_Field_tops => k_is)
    (case n_Field_nodes => k_is)
    (case n_Field_work => k_is)
    (case q_HeapError => k_is)
    (case x_HeapError => k_exc)
    (case k_HeapError => k_is)
    (case b_HeapError => k_is)
    (case t_HeapError => k_is)
    (case q_NoHeap => k_is)
    (case x_NoHeap => k_exc)
    (case k_NoHeap => k_is)
    (case b_NoHeap => k_is)
    (case t_NoHeap => k_is)
    (case q_NoThing => k_is)
    (case x_NoThing => k_exc)
    (case k_NoThing => k_is)
    (case b_NoThing => k_is)
    (case t_NoThing => k_is)
    (case q_Bare => k_is)
    (case x_Bare => k_exc)
    (case k_Bare => k_is)
    (case b_Bare => k_is)
    (case t_Bare => k_is)
    (case q_Same => k_is)
    (case x_Same => k_exc)
    (case k_Same => k_is)
    (case b_Same => k_is)
    (case t_Same => k_is)
    (case q_Heavier => k_is)
    (case x_Heavier => k_exc)
    (case k_Heavier => k_is)
    (case b_Heavier => k_is)
    (case t_Heavier => k_is)
    (case a_Node_init => k_is)
    (case i_Node_init => k_is)
    (case l_Node_init => k_is)
    (case c_Node_init => k_is)
    (case k_Node_init => k_is)
    (case mk_Node => k_is)
    (case kc_Node => k_is)
    (case a_lesser => k_is)
    (case l_lesser => k_is)
    (case c_lesser => k_is)
    (case k_lesser => k_is)
    (case a_run_of => k_is)
    (case l_run_of => k_is)
    (case c_run_of => k_is)
    (case k_run_of => k_is)
    (case a_thing_of => k_is)
    (case l_thing_of => k_is)
    (case c_thing_of => k_is)
    (case k_thing_of => k_is)
    (case a_settle => k_is)
    (case l_settle => k_is)
    (case c_settle => k_is)
    (case k_settle => k_is)
    (case a_meet => k_is)
    (case l_meet => k_is)
    (case c_meet => k_is)
    (case k_meet => k_is)
    (case a_joined => k_is)
    (case l_joined => k_is)
    (case c_joined => k_is)
    (case k_joined => k_is)
    (case a_cut_out => k_is)
    (case l_cut_out => k_is)
    (case c_cut_out => k_is)
    (case k_cut_out => k_is)
    (case a_in_order => k_is)
    (case l_in_order => k_is)
    (case c_in_order => k_is)
    (case k_in_order => k_is)
    (case a_Field_init => k_is)
    (case i_Field_init => k_is)
    (case l_Field_init => k_is)
    (case c_Field_init => k_is)
    (case k_Field_init => k_is)
    (case mk_Field => k_is)
    (case kc_Field => k_is)
    (case a_Field_heap => k_is)
    (case i_Field_heap => k_is)
    (case l_Field_heap => k_is)
    (case c_Field_heap => k_is)
    (case k_Field_heap => k_is)
    (case a_Field_put => k_is)
    (case i_Field_put => k_is)
    (case l_Field_put => k_is)
    (case c_Field_put => k_is)
    (case k_Field_put => k_is)
    (case a_Field_least => k_is)
    (case i_Field_least => k_is)
    (case l_Field_least => k_is)
    (case c_Field_least => k_is)
    (case k_Field_least => k_is)
    (case a_Field_take => k_is)
    (case i_Field_take => k_is)
    (case l_Field_take => k_is)
    (case c_Field_take => k_is)
    (case k_Field_take => k_is)
    (case a_Field_pour => k_is)
    (case i_Field_pour => k_is)
    (case l_Field_pour => k_is)
    (case c_Field_pour => k_is)
    (case k_Field_pour => k_is)
    (case a_Field_sink => k_is)
    (case i_Field_sink => k_is)
    (case l_Field_sink => k_is)
    (case c_Field_sink => k_is)
    (case k_Field_sink => k_is)
    (case a_Field_things => k_is)
    (case i_Field_things => k_is)
    (case l_Field_things => k_is)
    (case c_Field_things => k_is)
    (case k_Field_things => k_is)
    (case a_Field_tree => k_is)
    (case i_Field_tree => k_is)
    (case l_Field_tree => k_is)
    (case c_Field_tree => k_is)
    (case k_Field_tree => k_is)
    (case a_Field_work => k_is)
    (case i_Field_work => k_is)
    (case l_Field_work => k_is)
    (case c_Field_work => k_is)
    (case k_Field_work => k_is)
    (case a_Field_plant => k_is)
    (case i_Field_plant => k_is)
    (case l_Field_plant => k_is)
    (case c_Field_plant => k_is)
    (case k_Field_plant => k_is)
    (case a_Field_check_heap => k_is)
    (case i_Field_check_heap => k_is)
    (case l_Field_check_heap => k_is)
    (case c_Field_check_heap => k_is)
    (case k_Field_check_heap => k_is)
    (case a_Field_top => k_is)
    (case i_Field_top => k_is)
    (case l_Field_top => k_is)
    (case c_Field_top => k_is)
    (case k_Field_top => k_is)
    (case a_Field_node => k_is)
    (case i_Field_node => k_is)
    (case l_Field_node => k_is)
    (case c_Field_node => k_is)
    (case k_Field_node => k_is)
    (case a_l_cell => k_is)
    (case l_l_cell => k_is)
    (case c_l_cell => k_is)
    (case k_l_cell => k_is)
    (case a_l_weight => k_is)
    (case l_l_weight => k_is)
    (case c_l_weight => k_is)
    (case k_l_weight => k_is)
    (case a_l_noted => k_is)
    (case l_l_noted => k_is)
    (case c_l_noted => k_is)
    (case k_l_noted => k_is)
    (case a_l_run => k_is)
    (case l_l_run => k_is)
    (case c_l_run => k_is)
    (case k_l_run => k_is)
    (case a_l_sided => k_is)
    (case l_l_sided => k_is)
    (case c_l_sided => k_is)
    (case k_l_sided => k_is)
    (case a_l_joined => k_is)
    (case l_l_joined => k_is)
    (case c_l_joined => k_is)
    (case k_l_joined => k_is)
    (case a_l_above => k_is)
    (case l_l_above => k_is)
    (case c_l_above => k_is)
    (case k_l_above => k_is)
    (case a_l_sunk => k_is)
    (case l_l_sunk => k_is)
    (case c_l_sunk => k_is)
    (case k_l_sunk => k_is)
    (case a_l_told => k_is)
    (case l_l_told => k_is)
    (case c_l_told => k_is)
    (case k_l_told => k_is)
    (case a_l_top => k_is)
    (case l_l_top => k_is)
    (case c_l_top => k_is)
    (case k_l_top => k_is)
    (case a_l_due => k_is)
    (case l_l_due => k_is)
    (case c_l_due => k_is)
    (case k_l_due => k_is)
    (case a_l_done => k_is)
    (case l_l_done => k_is)
    (case c_l_done => k_is)
    (case k_l_done => k_is)
    (case a_law => k_is)
    (case l_law => k_is)
    (case c_law => k_is)
    (case k_law => k_is)
    (case z_ValueError => k_is)
    (case z_len => k_is)
    (case z_list => k_is)
    (case z_min => k_is)
    (case z_range => k_is)

