import PyProof.Rows.All
import Wide.All
import OpenK.AllK
import Wide.FinOn
import HandS.ForMost
import HandS.StrMore
import HandS.IsInst
import HandS.Codes
import HandS.Flow
import HandS.More
import HandS.Walk
import HandS.OwnEq
import HandS.Style
import HandS.Wide
import PyProof.Raises
import KE.RegKIsAll
import PySem.Challenge.RW_livequill_k19_equality_and_truth
set_option Elab.async false
set_option linter.all false
set_option maxRecDepth 100000
namespace My
open PySem L2 SX
open C8 (pss_cut tCut cutS_slice pe_gc)
/-! ### == between values of which one has its own __eq__ -/
section
variable {prog : Program} {w : World} {A : Around} {E : Value → Shared → Prop} {s : Shared} {K : PySem.W.Frag} {x C L f : Addr} {h₀ : Heap} {m : Str → Option Value} {ox : Obj} {od : Option Obj}
theorem cmp_back {a : Value} {Ta id : String} {Q : Value → Shared → Prop} (hu : A.units < cLine) (F : PyProof.Rows.Fr h₀ L s.heap m) (X₀ : K.In h₀) (I : PySem.W.InstAt s.heap x ox C od) (ha : s.TypeIs a Ta) (h1 : Slot Ta "__eq__" id)
    (hsub : PySem.W.subIn K (.ref C) (.type Ta) = some false) (hc : ∀ Q' : Value → Shared → Prop, Q' .notImplemented s → wpAny (model prog w) A (call (.builtin id) [a, .ref x]) Q' E s)
    (hs : PySem.W.findIn K (.ref C) "__eq__" = some (some (.ref f))) (hf : PySem.W.isFn K (.ref f) = true)
    (h : wpAny (model prog w) A (call (.ref f) [.ref x, a]) (PySem.W.CmpBack Q) E s) : wpAny (model prog w) A (richCompare .Eq a (.ref x)) Q E s := by
  have X := X₀.keeps F.keep
  have one : wpAny (model prog w) A (tryCompare (.ref x) "__eq__" a) (fun r s' => ∃ v, r = some v ∧ Q v s') E s := by
    unfold tryCompare
    refine wpAny_bind (PySem.W.ifBound_K X I hs hf (wpAny_mono h (fun v s' hv => ?_) fun _ _ e => e))
    cases v <;> first | exact hv.elim | exact wpAny_pure ⟨_, rfl, hv⟩
  unfold richCompare
  simp only [cmpInfo, ha.oneThing_none]
  refine wpAny_holding (wpAny_bind (wpAny_cRoomFor hu ?_))
  refine wpAny_bind (wpAny_typeOf ha (wpAny_bind (I.type.here ?_)))
  have hne : (Value.ref C == Value.type Ta) = false := rfl
  have hne' : (Value.type Ta != Value.ref C) = true := rfl
  simp only [hne', if_true]
  refine wpAny_bind ((PySem.W.looks_subIn X hsub).here ?_)
  simp only [Bool.false_eq_true, if_false, Bool.not_false, if_true]
  refine wpAny_bind (m := tryCompare a _ _) (wpAny_tryCompare_declines ha h1 (hc _ ⟨rfl, ?_⟩))
  refine wpAny_bind (wpAny_mono one (fun r s' z => ?_) fun _ _ e => e)
  obtain ⟨v, rfl, hq⟩ := z
  exact wpAny_pure hq
end
theorem int_eq_declines_ins (b : Int) (u : Tok) (l : Addr) (o : Obj) :
    PySem.Meets (Builtin.«int.__eq__» ⟨[.int b u, .ref l], []⟩) (fun _ R s => s.heap.get? l = some o ∧ o.data = .plain ∧ (∃ C, o.cls = .ref C) ∧ R (.ok (.ret .notImplemented)) s) :=
  .of_wp fun prog w A R s h => by
    obtain ⟨hp, g, d, tk, os⟩ := s
    obtain ⟨hl, hd, ⟨C, hC⟩, h⟩ := h
    obtain ⟨cls, dd, dat, sl⟩ := o
    cases hd
    cases hC
    wp_walk using PySem.AutoSeq1.wpAny_loadPart' hl, wpAny_load hl
    exact ⟨_, rfl, h⟩
theorem str_eq_declines_ins (b : Str) (u : Tok) (l : Addr) (o : Obj) :
    PySem.Meets (Builtin.«str.__eq__» ⟨[.str b u, .ref l], []⟩) (fun _ R s => s.heap.get? l = some o ∧ o.data = .plain ∧ (∃ C, o.cls = .ref C) ∧ R (.ok (.ret .notImplemented)) s) :=
  .of_wp fun prog w A R s h => by
    obtain ⟨hp, g, d, tk, os⟩ := s
    obtain ⟨hl, hd, ⟨C, hC⟩, h⟩ := h
    obtain ⟨cls, dd, dat, sl⟩ := o
    cases hd
    cases hC
    wp_walk using PySem.AutoSeq1.wpAny_loadPart' hl, wpAny_load hl
    exact ⟨_, rfl, h⟩
/-- the type of a scalar or of an instance -/
inductive TyE (H : Hp) : V → Value → Prop where
  | non : TyE H .non (.type "NoneType")
  | bl (b : Bool) : TyE H (.bl b) (.type "bool")
  | int (i : Int) : TyE H (.int i) (.type "int")
  | str (x : Str) : TyE H (.str x) (.type "str")
  | ins {a C dx : Addr} {fs : List (Str × V)} (e : H a = some (.ins C dx fs)) : TyE H (.ref a) (.ref C)
theorem TyE.looks {X : Cx} {pins : List (Addr × Obj)} {s : Shared} {σ : St} {H : Hp} {y : V} {u t : Value} (I : Inv X pins σ H s) (r : RelV y u) (ty : TyE H y t) : PySem.W.Looks (model X.prog X.w) s.heap (typeOf u) t := by
  cases ty with
  | non => cases (show u = Value.none from r); exact .of_pure rfl
  | bl b => cases (show u = Value.bool b from r); exact .of_pure rfl
  | int i => obtain ⟨t', e⟩ := (show ∃ t, u = Value.int i t from r); cases e; exact .of_pure rfl
  | str x => obtain ⟨t', e⟩ := (show ∃ t, u = Value.str x t from r); cases e; exact .of_pure rfl
  | ins e =>
    cases (show u = Value.ref _ from r)
    obtain ⟨mA, J, _⟩ := ins_get I.hok e
    obtain ⟨od, J, _⟩ := J.look
    exact J.type
/-- the own == of a class -/
structure OwnEq (K : PySem.W.Frag) (C f : Addr) : Prop where
  at_ : PySem.W.findIn K (.ref C) "__eq__" = some (some (.ref f))
  fn : PySem.W.isFn K (.ref f) = true
/-- what the call of the own == gives back -/
theorem own_run {X : Cx} {n : Nat} {CX : CXT} {f : Addr} {fd : FuncData} {ps : List Str} {sp : Sp} {E : XK} (F : FnOk X.prog X.w X.K X.mg X.base CX n f fd ps sp) (hb : Binds X.K fd ps []) (hx : Passes CX X E) (hr : Room n X.A)
    {pins : List (Addr × Obj)} {s : Shared} {σ : St} {H : Hp} {x y : V} {v u : Value} {Q : VK} (I : Inv X pins σ H s) (rx : RelV x v) (ry : RelV y u) (h : sp [x, y] H (fun z H' => ∃ b, z = .bl b ∧ Q (.bl b) H') E) :
    wpAny (model X.prog X.w) X.A (call (.ref f) [v, u]) (PySem.W.CmpBack (EP X pins σ Q)) X.xe s := by
  have hl := F.len _ _ _ _ h
  have r2 : Vals [x, y] [v, u] := .cons rx (.cons ry .nil)
  refine wpAny_call (codeAny_mono (F.run X.A X.stack s H ⟨[v, u], []⟩ [v, u] [x, y] _ E hr I.env0 (by
    have := hb s [v, u] I.kIn (by simpa using hl)
    simpa using this) r2 h) fun r s' hq => ?_)
  cases r with
  | error e => exact hx pins σ H s e s' I hq
  | ok fl =>
    cases fl with
    | ret w =>
      obtain ⟨z, H', I', rz, b, ez, q⟩ := I.after hq
      subst ez
      cases (show w = Value.bool b from rz)
      exact ⟨.bl b, H', I', rfl, q⟩
    | next => exact False.elim hq
    | brk => exact False.elim hq
    | cont => exact False.elim hq
/-- an instance with its own == on the left -/
theorem op_eqL {X : Cx} {n : Nat} {CX : CXT} {C f : Addr} {fd : FuncData} {ps : List Str} {sp : Sp} {E : XK} (O : OwnEq X.K C f) (F : FnOk X.prog X.w X.K X.mg X.base CX n f fd ps sp) (hb : Binds X.K fd ps []) (hx : Passes CX X E) (hr : Room n X.A) :
    OpR X (compareOp .Eq) (fun x y H Q => ∃ a dx fs tb, x = .ref a ∧ H a = some (.ins C dx fs) ∧ TyE H y tb ∧ PySem.W.notFirst X.K C tb = true ∧ sp [x, y] H (fun z H' => ∃ b, z = .bl b ∧ Q (.bl b) H') E) := by
  intro pins s σ H x y v u Q I rx ry h
  obtain ⟨a, dx, fs, tb, rfl, ha, ty, hn, h⟩ := h
  cases (show v = Value.ref a from rx)
  obtain ⟨mA, J, _⟩ := ins_get I.hok ha
  obtain ⟨od, J, _⟩ := J.look
  obtain ⟨m, hF⟩ := I.fr
  show wpAny (model X.prog X.w) X.A (richCompare .Eq (.ref a) u) (EP X pins σ Q) X.xe s
  exact PySem.W.cmp_K (op := .Eq) hr.units0 hF I.ok.mod.kin J (ty.looks I ry) hn O.at_ O.fn (own_run F hb hx hr I (x := .ref a) (v := .ref a) rfl ry h)
/-- a scalar on the left, an instance with its own == on the right -/
theorem op_eqR {X : Cx} {n : Nat} {CX : CXT} {C f : Addr} {fd : FuncData} {ps : List Str} {sp : Sp} {E : XK} (O : OwnEq X.K C f) (F : FnOk X.prog X.w X.K X.mg X.base CX n f fd ps sp) (hb : Binds X.K fd ps []) (hx : Passes CX X E) (hr : Room n X.A)
    (h1 : PySem.W.subIn X.K (.ref C) (.type "NoneType") = some false) (h2 : PySem.W.subIn X.K (.ref C) (.type "int") = some false) (h3 : PySem.W.subIn X.K (.ref C) (.type "str") = some false) :
    OpR X (compareOp .Eq) (fun x y H Q => ∃ a dx fs, y = .ref a ∧ H a = some (.ins C dx fs) ∧ (x = .non ∨ (∃ i, x = .int i) ∨ ∃ z, x = .str z) ∧ sp [y, x] H (fun z H' => ∃ b, z = .bl b ∧ Q (.bl b) H') E) := by
  intro pins s σ H x y v u Q I rx ry h
  obtain ⟨a, dx, fs, rfl, ha, hx', h⟩ := h
  cases (show u = Value.ref a from ry)
  obtain ⟨mA, J, _⟩ := ins_get I.hok ha
  have hob := J.obj
  obtain ⟨od, J, _⟩ := J.look
  obtain ⟨m, hF⟩ := I.fr
  show wpAny (model X.prog X.w) X.A (richCompare .Eq v (.ref a)) (EP X pins σ Q) X.xe s
  have hc := own_run F hb hx hr I (x := .ref a) (v := .ref a) (u := v) rfl rx h
  rcases hx' with rfl | ⟨i, rfl⟩ | ⟨z, rfl⟩
  · cases (show v = Value.none from rx)
    exact cmp_back hr.units0 hF I.ok.mod.kin J (Ta := "NoneType") rfl PySem.F.slot_NoneType_eq h1 (fun Q' hq => call_gives PySem.F.slot_NoneType_eq rfl PySem.F.entry_NoneType_eq (PySem.F.args_NoneType_eq_2 _ _) (SeqAt.NoneType___eq___none_ref_0 a) hq) O.at_ O.fn hc
  · obtain ⟨t, rfl⟩ := (show ∃ t, v = Value.int i t from rx)
    exact cmp_back hr.units0 hF I.ok.mod.kin J (Ta := "int") (typeIs_int s i t) PySem.F.slot_int_eq h2 (fun Q' hq => call_meets PySem.F.slot_int_eq (typeIs_int s i t) PySem.F.entry_int_eq (PySem.F.args_int_eq_2 _ _) (int_eq_declines_ins i t a _) ⟨hob, rfl, ⟨_, rfl⟩, hq⟩) O.at_ O.fn hc
  · obtain ⟨t, rfl⟩ := (show ∃ t, v = Value.str z t from rx)
    exact cmp_back hr.units0 hF I.ok.mod.kin J (Ta := "str") (typeIs_str s z t) PySem.F.slot_str_eq h3 (fun Q' hq => call_meets PySem.F.slot_str_eq (typeIs_str s z t) PySem.F.entry_str_eq (PySem.F.args_str_eq_2 _ _) (str_eq_declines_ins z t a _) ⟨hob, rfl, ⟨_, rfl⟩, hq⟩) O.at_ O.fn hc
end My
namespace My
open PySem L2 SX
open C8 (pss_cut tCut cutS_slice pe_gc)
def top (i : Nat) : Stmt := PySem.Challenge.pw_livequill_k19_equality_and_truth.main.body.getD i (.Pass ⟨0, 0, 0, 0⟩)
/-- all that is not at p stays -/
def Keep (p : Addr) (H H' : Hp) : Prop := ∀ b o, H b = some o → b ≠ p → H' b = some o
theorem Same.keep {p : Addr} {H H' : Hp} (s : Same H H') : Keep p H H' := fun b o e _ => s b o e
theorem Keep.trans {p : Addr} {H H1 H2 : Hp} (a : Keep p H H1) (b : Keep p H1 H2) : Keep p H H2 := fun c o e n => b c o (a c o e n) n
theorem keep_upd {p : Addr} {H : Hp} {o : HO} : Keep p H (upd H p o) := fun b x e n => by
  rw [upd_ne n]
  exact e
theorem same_upd {H : Hp} {p : Addr} {o : HO} (h : H p = none) : Same H (upd H p o) := fun b x e => by
  rw [upd_ne (ne_of_none e h)]
  exact e
theorem lk_hit {k : Str} {v : V} {r : List (Str × V)} : ((k, v) :: r).lookup k = some v := by
  simp [List.lookup]
theorem lk_skip {k k' : Str} {v : V} {r : List (Str × V)} (h : (k == k') = false) : ((k', v) :: r).lookup k = r.lookup k := by
  simp [List.lookup, h]
/-- the names of built-ins that are still the built-ins -/
structure Bl (mg : Str → Option Value) : Prop where
  range : mg "range" = none
  len : mg "len" = none
  int : mg "int" = none
  str : mg "str" = none
  bool : mg "bool" = none
  isinstance : mg "isinstance" = none
  list : mg "list" = none
  abs : mg "abs" = none
  min : mg "min" = none
  max : mg "max" = none
structure Kt (K : PySem.W.Frag) (mg : Str → Option Value) (cR cB cP cT cI cK cC cD cV cU cS : Addr) : Prop where
  pgR : PySem.W.plainGet K cR Str.empty = true
  hdR : PySem.W.hasDictIn K cR = true
  poR : PySem.W.plainOver K cR = true
  saR : PySem.W.findIn K (.ref cR) "__setattr__" = some (some (.builtin "object.__setattr__"))
  nR_number : PySem.W.findIn K (.ref cR) "number" = some none
  haR : PySem.W.findIn K (.ref cR) "__class__" = some (some (.builtin "object.__class__"))
  hmR : PySem.W.mroIn K cR (.type "object") = some true
  pgB : PySem.W.plainGet K cB Str.empty = true
  hdB : PySem.W.hasDictIn K cB = true
  poB : PySem.W.plainOver K cB = true
  saB : PySem.W.findIn K (.ref cB) "__setattr__" = some (some (.builtin "object.__setattr__"))
  nB_name : PySem.W.findIn K (.ref cB) "name" = some none
  haB : PySem.W.findIn K (.ref cB) "__class__" = some (some (.builtin "object.__class__"))
  hmB : PySem.W.mroIn K cB (.type "object") = some true
  pgP : PySem.W.plainGet K cP Str.empty = true
  hdP : PySem.W.hasDictIn K cP = true
  poP : PySem.W.plainOver K cP = true
  saP : PySem.W.findIn K (.ref cP) "__setattr__" = some (some (.builtin "object.__setattr__"))
  nP_held : PySem.W.findIn K (.ref cP) "held" = some none
  haP : PySem.W.findIn K (.ref cP) "__class__" = some (some (.builtin "object.__class__"))
  hmP : PySem.W.mroIn K cP (.type "object") = some true
  pgT : PySem.W.plainGet K cT Str.empty = true
  hdT : PySem.W.hasDictIn K cT = true
  poT : PySem.W.plainOver K cT = true
  saT : PySem.W.findIn K (.ref cT) "__setattr__" = some (some (.builtin "object.__setattr__"))
  nT__entries : PySem.W.findIn K (.ref cT) "_entries" = some none
  haT : PySem.W.findIn K (.ref cT) "__class__" = some (some (.builtin "object.__class__"))
  hmT : PySem.W.mroIn K cT (.type "object") = some true
  pgI : PySem.W.plainGet K cI Str.empty = true
  hdI : PySem.W.hasDictIn K cI = true
  poI : PySem.W.plainOver K cI = true
  saI : PySem.W.findIn K (.ref cI) "__setattr__" = some (some (.builtin "object.__setattr__"))
  nI_owner : PySem.W.findIn K (.ref cI) "owner" = some none
  nI_named : PySem.W.findIn K (.ref cI) "named" = some none
  haI : PySem.W.findIn K (.ref cI) "__class__" = some (some (.builtin "object.__class__"))
  hmI : PySem.W.mroIn K cI (.type "object") = some true
  pgK : PySem.W.plainGet K cK Str.empty = true
  hdK : PySem.W.hasDictIn K cK = true
  poK : PySem.W.plainOver K cK = true
  saK : PySem.W.findIn K (.ref cK) "__setattr__" = some (some (.builtin "object.__setattr__"))
  nK_name : PySem.W.findIn K (.ref cK) "name" = some none
  nK_parent : PySem.W.findIn K (.ref cK) "parent" = some none
  nK_methods : PySem.W.findIn K (.ref cK) "methods" = some none
  haK : PySem.W.findIn K (.ref cK) "__class__" = some (some (.builtin "object.__class__"))
  hmK : PySem.W.mroIn K cK (.type "object") = some true
  pgC : PySem.W.plainGet K cC Str.empty = true
  hdC : PySem.W.hasDictIn K cC = true
  poC : PySem.W.plainOver K cC = true
  saC : PySem.W.findIn K (.ref cC) "__setattr__" = some (some (.builtin "object.__setattr__"))
  nC_number : PySem.W.findIn K (.ref cC) "number" = some none
  nC_wanted : PySem.W.findIn K (.ref cC) "wanted" = some none
  nC_scope : PySem.W.findIn K (.ref cC) "scope" = some none
  haC : PySem.W.findIn K (.ref cC) "__class__" = some (some (.builtin "object.__class__"))
  hmC : PySem.W.mroIn K cC (.type "object") = some true
  pgD : PySem.W.plainGet K cD Str.empty = true
  hdD : PySem.W.hasDictIn K cD = true
  poD : PySem.W.plainOver K cD = true
  saD : PySem.W.findIn K (.ref cD) "__setattr__" = some (some (.builtin "object.__setattr__"))
  nD_owner : PySem.W.findIn K (.ref cD) "owner" = some none
  nD_function : PySem.W.findIn K (.ref cD) "function" = some none
  haD : PySem.W.findIn K (.ref cD) "__class__" = some (some (.builtin "object.__class__"))
  hmD : PySem.W.mroIn K cD (.type "object") = some true
  pgV : PySem.W.plainGet K cV Str.empty = true
  hdV : PySem.W.hasDictIn K cV = true
  poV : PySem.W.plainOver K cV = true
  saV : PySem.W.findIn K (.ref cV) "__setattr__" = some (some (.builtin "object.__setattr__"))
  nV_value : PySem.W.findIn K (.ref cV) "value" = some none
  haV : PySem.W.findIn K (.ref cV) "__class__" = some (some (.builtin "object.__class__"))
  hmV : PySem.W.mroIn K cV (.type "object") = some true
  pgU : PySem.W.plainGet K cU Str.empty = true
  hdU : PySem.W.hasDictIn K cU = true
  poU : PySem.W.plainOver K cU = true
  saU : PySem.W.findIn K (.ref cU) "__setattr__" = some (some (.builtin "object.__setattr__"))
  nU_rest : PySem.W.findIn K (.ref cU) "rest" = some none
  haU : PySem.W.findIn K (.ref cU) "__class__" = some (some (.builtin "object.__class__"))
  hmU : PySem.W.mroIn K cU (.type "object") = some true
  pgS : PySem.W.plainGet K cS Str.empty = true
  hdS : PySem.W.hasDictIn K cS = true
  poS : PySem.W.plainOver K cS = true
  saS : PySem.W.findIn K (.ref cS) "__setattr__" = some (some (.builtin "object.__setattr__"))
  nS_things : PySem.W.findIn K (.ref cS) "things" = some none
  nS_output : PySem.W.findIn K (.ref cS) "output" = some none
  nS_lines : PySem.W.findIn K (.ref cS) "lines" = some none
  nS_taken : PySem.W.findIn K (.ref cS) "taken" = some none
  hn : PySem.W.specialIn K (.builtin "object.__class__") "__get__" = some (some (.builtin "getset_descriptor.__get__"))
  ht : PySem.W.takesIn K (.builtin "object.__class__") = some true
  qNoneTypeR : PySem.W.kitOne K (.type "NoneType") (.ref cR) = some false
  qNoneTypeB : PySem.W.kitOne K (.type "NoneType") (.ref cB) = some false
  qboolR : PySem.W.kitOne K (.type "bool") (.ref cR) = some false
  qboolB : PySem.W.kitOne K (.type "bool") (.ref cB) = some false
  qintR : PySem.W.kitOne K (.type "int") (.ref cR) = some false
  qintB : PySem.W.kitOne K (.type "int") (.ref cB) = some false
  qstrR : PySem.W.kitOne K (.type "str") (.ref cR) = some false
  qstrB : PySem.W.kitOne K (.type "str") (.ref cB) = some false
  qRbool : PySem.W.kitOne K (.ref cR) (.type "bool") = some false
  qRint : PySem.W.kitOne K (.ref cR) (.type "int") = some false
  qRstr : PySem.W.kitOne K (.ref cR) (.type "str") = some false
  suRNoneType : PySem.W.subIn K (.ref cR) (.type "NoneType") = some false
  nfRNoneType : PySem.W.notFirst K cR (.type "NoneType") = true
  suRint : PySem.W.subIn K (.ref cR) (.type "int") = some false
  nfRint : PySem.W.notFirst K cR (.type "int") = true
  suRstr : PySem.W.subIn K (.ref cR) (.type "str") = some false
  nfRstr : PySem.W.notFirst K cR (.type "str") = true
  qBbool : PySem.W.kitOne K (.ref cB) (.type "bool") = some false
  qBint : PySem.W.kitOne K (.ref cB) (.type "int") = some false
  qBstr : PySem.W.kitOne K (.ref cB) (.type "str") = some false
  suBNoneType : PySem.W.subIn K (.ref cB) (.type "NoneType") = some false
  nfBNoneType : PySem.W.notFirst K cB (.type "NoneType") = true
  suBint : PySem.W.subIn K (.ref cB) (.type "int") = some false
  nfBint : PySem.W.notFirst K cB (.type "int") = true
  suBstr : PySem.W.subIn K (.ref cB) (.type "str") = some false
  nfBstr : PySem.W.notFirst K cB (.type "str") = true
  qRB : PySem.W.kitOne K (.ref cR) (.ref cB) = some false
  qBR : PySem.W.kitOne K (.ref cB) (.ref cR) = some false
  nfRB : PySem.W.notFirst K cR (.ref cB) = true
  nfBR : PySem.W.notFirst K cB (.ref cR) = true
  qKP : PySem.W.kitOne K (.ref cK) (.ref cP) = some false
  qKT : PySem.W.kitOne K (.ref cK) (.ref cT) = some false
  qKI : PySem.W.kitOne K (.ref cK) (.ref cI) = some false
  qPT : PySem.W.kitOne K (.ref cP) (.ref cT) = some false
  qPI : PySem.W.kitOne K (.ref cP) (.ref cI) = some false
  qPK : PySem.W.kitOne K (.ref cP) (.ref cK) = some false
  qTP : PySem.W.kitOne K (.ref cT) (.ref cP) = some false
  qTI : PySem.W.kitOne K (.ref cT) (.ref cI) = some false
  qTK : PySem.W.kitOne K (.ref cT) (.ref cK) = some false
  qIP : PySem.W.kitOne K (.ref cI) (.ref cP) = some false
  qIT : PySem.W.kitOne K (.ref cI) (.ref cT) = some false
  qIK : PySem.W.kitOne K (.ref cI) (.ref cK) = some false
  qCP : PySem.W.kitOne K (.ref cC) (.ref cP) = some false
  qCT : PySem.W.kitOne K (.ref cC) (.ref cT) = some false
  qCI : PySem.W.kitOne K (.ref cC) (.ref cI) = some false
  qCK : PySem.W.kitOne K (.ref cC) (.ref cK) = some false
  qDP : PySem.W.kitOne K (.ref cD) (.ref cP) = some false
  qDT : PySem.W.kitOne K (.ref cD) (.ref cT) = some false
  qDI : PySem.W.kitOne K (.ref cD) (.ref cI) = some false
  qDK : PySem.W.kitOne K (.ref cD) (.ref cK) = some false
  qVP : PySem.W.kitOne K (.ref cV) (.ref cP) = some false
  qVT : PySem.W.kitOne K (.ref cV) (.ref cT) = some false
  qVI : PySem.W.kitOne K (.ref cV) (.ref cI) = some false
  qVK : PySem.W.kitOne K (.ref cV) (.ref cK) = some false
  qUP : PySem.W.kitOne K (.ref cU) (.ref cP) = some false
  qUT : PySem.W.kitOne K (.ref cU) (.ref cT) = some false
  qUI : PySem.W.kitOne K (.ref cU) (.ref cI) = some false
  qUK : PySem.W.kitOne K (.ref cU) (.ref cK) = some false
  gR : mg "Ref" = some (.ref cR)
  gB : mg "Builtin" = some (.ref cB)
  gP : mg "Parts" = some (.ref cP)
  gT : mg "Table" = some (.ref cT)
  gI : mg "Instance" = some (.ref cI)
  gK : mg "Kin" = some (.ref cK)
  gC : mg "Closure" = some (.ref cC)
  gD : mg "Bound" = some (.ref cD)
  gV : mg "Variable" = some (.ref cV)
  gU : mg "Cursor" = some (.ref cU)
  gS : mg "Store" = some (.ref cS)
section
variable {K : PySem.W.Frag} {mg : Str → Option Value} {cR cB cP cT cI cK cC cD cV cU cS : Addr}
section
theorem Kt.clR (T : Kt K mg cR cB cP cT cI cK cC cD cV cU cS) : Cls K cR := ⟨T.pgR, T.hdR, T.poR, T.saR⟩
theorem Kt.clB (T : Kt K mg cR cB cP cT cI cK cC cD cV cU cS) : Cls K cB := ⟨T.pgB, T.hdB, T.poB, T.saB⟩
theorem Kt.clP (T : Kt K mg cR cB cP cT cI cK cC cD cV cU cS) : Cls K cP := ⟨T.pgP, T.hdP, T.poP, T.saP⟩
theorem Kt.clT (T : Kt K mg cR cB cP cT cI cK cC cD cV cU cS) : Cls K cT := ⟨T.pgT, T.hdT, T.poT, T.saT⟩
theorem Kt.clI (T : Kt K mg cR cB cP cT cI cK cC cD cV cU cS) : Cls K cI := ⟨T.pgI, T.hdI, T.poI, T.saI⟩
theorem Kt.clK (T : Kt K mg cR cB cP cT cI cK cC cD cV cU cS) : Cls K cK := ⟨T.pgK, T.hdK, T.poK, T.saK⟩
theorem Kt.clC (T : Kt K mg cR cB cP cT cI cK cC cD cV cU cS) : Cls K cC := ⟨T.pgC, T.hdC, T.poC, T.saC⟩
theorem Kt.clD (T : Kt K mg cR cB cP cT cI cK cC cD cV cU cS) : Cls K cD := ⟨T.pgD, T.hdD, T.poD, T.saD⟩
theorem Kt.clV (T : Kt K mg cR cB cP cT cI cK cC cD cV cU cS) : Cls K cV := ⟨T.pgV, T.hdV, T.poV, T.saV⟩
theorem Kt.clU (T : Kt K mg cR cB cP cT cI cK cC cD cV cU cS) : Cls K cU := ⟨T.pgU, T.hdU, T.poU, T.saU⟩
theorem Kt.clS (T : Kt K mg cR cB cP cT cI cK cC cD cV cU cS) : Cls K cS := ⟨T.pgS, T.hdS, T.poS, T.saS⟩
theorem Kt.tyR (T : Kt K mg cR cB cP cT cI cK cC cD cV cU cS) {H : Hp} {a dx : Addr} {fs : List (Str × V)} (e : H a = some (.ins cR dx fs)) : TyX K H (.ref a) (.ref cR) := .base (.ins e T.clR T.haR T.hn T.ht T.hmR)
theorem Kt.tyB (T : Kt K mg cR cB cP cT cI cK cC cD cV cU cS) {H : Hp} {a dx : Addr} {fs : List (Str × V)} (e : H a = some (.ins cB dx fs)) : TyX K H (.ref a) (.ref cB) := .base (.ins e T.clB T.haB T.hn T.ht T.hmB)
theorem Kt.tyP (T : Kt K mg cR cB cP cT cI cK cC cD cV cU cS) {H : Hp} {a dx : Addr} {fs : List (Str × V)} (e : H a = some (.ins cP dx fs)) : TyX K H (.ref a) (.ref cP) := .base (.ins e T.clP T.haP T.hn T.ht T.hmP)
theorem Kt.tyT (T : Kt K mg cR cB cP cT cI cK cC cD cV cU cS) {H : Hp} {a dx : Addr} {fs : List (Str × V)} (e : H a = some (.ins cT dx fs)) : TyX K H (.ref a) (.ref cT) := .base (.ins e T.clT T.haT T.hn T.ht T.hmT)
theorem Kt.tyI (T : Kt K mg cR cB cP cT cI cK cC cD cV cU cS) {H : Hp} {a dx : Addr} {fs : List (Str × V)} (e : H a = some (.ins cI dx fs)) : TyX K H (.ref a) (.ref cI) := .base (.ins e T.clI T.haI T.hn T.ht T.hmI)
theorem Kt.tyK (T : Kt K mg cR cB cP cT cI cK cC cD cV cU cS) {H : Hp} {a dx : Addr} {fs : List (Str × V)} (e : H a = some (.ins cK dx fs)) : TyX K H (.ref a) (.ref cK) := .base (.ins e T.clK T.haK T.hn T.ht T.hmK)
theorem Kt.tyC (T : Kt K mg cR cB cP cT cI cK cC cD cV cU cS) {H : Hp} {a dx : Addr} {fs : List (Str × V)} (e : H a = some (.ins cC dx fs)) : TyX K H (.ref a) (.ref cC) := .base (.ins e T.clC T.haC T.hn T.ht T.hmC)
theorem Kt.tyD (T : Kt K mg cR cB cP cT cI cK cC cD cV cU cS) {H : Hp} {a dx : Addr} {fs : List (Str × V)} (e : H a = some (.ins cD dx fs)) : TyX K H (.ref a) (.ref cD) := .base (.ins e T.clD T.haD T.hn T.ht T.hmD)
theorem Kt.tyV (T : Kt K mg cR cB cP cT cI cK cC cD cV cU cS) {H : Hp} {a dx : Addr} {fs : List (Str × V)} (e : H a = some (.ins cV dx fs)) : TyX K H (.ref a) (.ref cV) := .base (.ins e T.clV T.haV T.hn T.ht T.hmV)
theorem Kt.tyU (T : Kt K mg cR cB cP cT cI cK cC cD cV cU cS) {H : Hp} {a dx : Addr} {fs : List (Str × V)} (e : H a = some (.ins cU dx fs)) : TyX K H (.ref a) (.ref cU) := .base (.ins e T.clU T.haU T.hn T.ht T.hmU)
end
end

theorem kit_self {K : PySem.W.Frag} (C : Addr) : PySem.W.kitOne K (.ref C) (.ref C) = some true := if_pos (beq_self_eq_true _)
theorem nf_self {K : PySem.W.Frag} (C : Addr) : PySem.W.notFirst K C (.ref C) = true := by simp [PySem.W.notFirst]
section
variable {P : Program} {w : World} {K : PySem.W.Frag} {mg : Str → Option Value} {base : Heap} {cR cB cP cT cI cK cC cD cV cU cS : Addr}
/-! ### the classes: what __init__ does -/
def spI1 (C : Addr) (n : Str) : Sp := fun vs H Q _ => ∃ a dx v, vs = [.ref a, v] ∧ H a = some (.ins C dx []) ∧ Q .non (upd H a (.ins C dx [(n, v)]))
/-- a thing: which class it is of is all that is told -/
def spIT (C : Addr) (n : Nat) : Sp := fun vs H Q _ => ∃ a dx rest, vs = V.ref a :: rest ∧ rest.length = n ∧ H a = some (.ins C dx []) ∧ ∀ H' fs, Keep a H H' → H' a = some (.ins C dx fs) → Q .non H'
def spIL (K : PySem.W.Frag) (C : Addr) : Sp := fun vs H Q _ => ∃ a dx l xs, vs = [.ref a, .ref l] ∧ H a = some (.ins C dx []) ∧ SqL K H l xs ∧ ∀ H' fs, Keep a H H' → H' a = some (.ins C dx fs) → Q .non H'

abbrev sIR : Stmt := inClass (top 3) 0
theorem scIR : FnScope ["self", "number"] ["self", "number"] (defScope sIR) := ⟨rfl, rfl, rfl, by decide +kernel, rfl, by decide +kernel, by decide +kernel⟩
theorem ok_IR {f : Addr} {fd : FuncData} (F : Fun K "__init__" "Ref.__init__" sIR f fd) (T : Kt K mg cR cB cP cT cI cK cC cD cV cU cS) : FnOk P w K mg base CX0 1 f fd ["self", "number"] (spI1 cR "number") := by
  refine F.ok scIR (fun vs H Q E h => ?_) (fun cdv A outer s H vs Q E hr h => ?_)
  · obtain ⟨a, dx, v, rfl, _⟩ := h
    rfl
  · obtain ⟨a, dx, v, rfl, ha, q⟩ := h
    refine ⟨_, pss_one (ps_fld (pv 0) (pv 1) rfl), ?_⟩
    exact ⟨_, rfl, _, rfl, a, cR, dx, [], rfl, ha, T.clR, T.nR_number, (by show 0 < 1000; decide), q⟩
abbrev sIB : Stmt := inClass (top 4) 0
theorem scIB : FnScope ["self", "name"] ["self", "name"] (defScope sIB) := ⟨rfl, rfl, rfl, by decide +kernel, rfl, by decide +kernel, by decide +kernel⟩
theorem ok_IB {f : Addr} {fd : FuncData} (F : Fun K "__init__" "Builtin.__init__" sIB f fd) (T : Kt K mg cR cB cP cT cI cK cC cD cV cU cS) : FnOk P w K mg base CX0 1 f fd ["self", "name"] (spI1 cB "name") := by
  refine F.ok scIB (fun vs H Q E h => ?_) (fun cdv A outer s H vs Q E hr h => ?_)
  · obtain ⟨a, dx, v, rfl, _⟩ := h
    rfl
  · obtain ⟨a, dx, v, rfl, ha, q⟩ := h
    refine ⟨_, pss_one (ps_fld (pv 0) (pv 1) rfl), ?_⟩
    exact ⟨_, rfl, _, rfl, a, cB, dx, [], rfl, ha, T.clB, T.nB_name, (by show 0 < 1000; decide), q⟩
abbrev sIP : Stmt := inClass (top 6) 0
theorem scIP : FnScope ["self", "held"] ["self", "held"] (defScope sIP) := ⟨rfl, rfl, rfl, by decide +kernel, rfl, by decide +kernel, by decide +kernel⟩
theorem ok_IP {f : Addr} {fd : FuncData} (F : Fun K "__init__" "Parts.__init__" sIP f fd) (T : Kt K mg cR cB cP cT cI cK cC cD cV cU cS) (B : Bl mg) : FnOk P w K mg base CX0 1 f fd ["self", "held"] (spIL K cP) := by
  refine F.ok scIP (fun vs H Q E h => ?_) (fun cdv A outer s H vs Q E hr h => ?_)
  · obtain ⟨a, dx, l, xs, rfl, _⟩ := h
    rfl
  · obtain ⟨a, dx, l, xs, rfl, ha, hl, q⟩ := h
    refine ⟨_, pss_one (ps_fld (pv 0) (pe_callTy call_list_of (by rfl) B.list (by decide +kernel) (pa_cons (pv 1) pa_nil)) rfl), ?_⟩
    refine ⟨_, rfl, l, xs, rfl, .inl hl, fun m hm => ⟨_, rfl, a, cP, dx, [], rfl, (by rw [upd_ne (ne_of_none ha hm)]; exact ha), T.clP, T.nP_held, (by show 0 < 1000; decide), ?_⟩⟩
    exact q _ _ (fun b o e n => by rw [upd_ne n, upd_ne (ne_of_none e hm)]; exact e) upd_same
abbrev sIT : Stmt := inClass (top 7) 0
theorem scIT : FnScope ["self"] ["self"] (defScope sIT) := ⟨rfl, rfl, rfl, by decide +kernel, rfl, by decide +kernel, by decide +kernel⟩
theorem ok_IT {f : Addr} {fd : FuncData} (F : Fun K "__init__" "Table.__init__" sIT f fd) (T : Kt K mg cR cB cP cT cI cK cC cD cV cU cS) : FnOk P w K mg base CX0 1 f fd ["self"] (spIT cT 0) := by
  refine F.ok scIT (fun vs H Q E h => ?_) (fun cdv A outer s H vs Q E hr h => ?_)
  · obtain ⟨a, dx, rest, rfl, hl, _⟩ := h
    show rest.length + 1 = _
    rw [hl]
    rfl
  · obtain ⟨a, dx, rest, rfl, hl, ha, q⟩ := h
    cases List.eq_nil_of_length_eq_zero hl
    refine ⟨_, pss_one (ps_fld (pv 0) pe_dnewK rfl), ?_⟩
    refine fun m hm => ?_
    refine ⟨_, rfl, a, cT, dx, _, rfl, (by rw [upd_ne (ne_of_none ha hm)]; exact ha), T.clT, T.nT__entries, (by show 0 < 1000; decide), ?_⟩
    exact q _ _ (fun b o e n => by rw [upd_ne n, upd_ne (ne_of_none e hm)]; exact e) upd_same
abbrev sII : Stmt := inClass (top 9) 0
theorem scII : FnScope ["self", "owner"] ["self", "owner"] (defScope sII) := ⟨rfl, rfl, rfl, by decide +kernel, rfl, by decide +kernel, by decide +kernel⟩
theorem ok_II {f : Addr} {fd : FuncData} (F : Fun K "__init__" "Instance.__init__" sII f fd) (T : Kt K mg cR cB cP cT cI cK cC cD cV cU cS) : FnOk P w K mg base CX0 1 f fd ["self", "owner"] (spIT cI 1) := by
  refine F.ok scII (fun vs H Q E h => ?_) (fun cdv A outer s H vs Q E hr h => ?_)
  · obtain ⟨a, dx, rest, rfl, hl, _⟩ := h
    show rest.length + 1 = _
    rw [hl]
    rfl
  · obtain ⟨a, dx, rest, rfl, hl, ha, q⟩ := h
    obtain ⟨v1, rfl⟩ : ∃ v1, rest = [v1] := by
      match rest, hl with
      | [v1], _ => exact ⟨_, rfl⟩
    refine ⟨_, pss_cons (ps_fld (pv 0) (pv 1) rfl) (pss_one (ps_fld (pv 0) pe_dnewK rfl)), ?_⟩
    refine ⟨_, rfl, _, rfl, a, cI, dx, _, rfl, ha, T.clI, T.nI_owner, (by show 0 < 1000; decide), ?_⟩
    refine fun m hm => ?_
    refine ⟨_, rfl, a, cI, dx, _, rfl, (by rw [upd_ne (ne_of_none upd_same hm)]; exact upd_same), T.clI, T.nI_named, (by show 1 < 1000; decide), ?_⟩
    exact q _ _ (fun b o e n => by rw [upd_ne n, upd_ne (ne_of_none (H := upd H a _) (by rw [upd_ne n]; exact e) hm), upd_ne n]; exact e) upd_same
abbrev sIK : Stmt := inClass (top 10) 0
theorem scIK : FnScope ["self", "name", "parent"] ["self", "name", "parent"] (defScope sIK) := ⟨rfl, rfl, rfl, by decide +kernel, rfl, by decide +kernel, by decide +kernel⟩
theorem ok_IK {f : Addr} {fd : FuncData} (F : Fun K "__init__" "Kin.__init__" sIK f fd) (T : Kt K mg cR cB cP cT cI cK cC cD cV cU cS) : FnOk P w K mg base CX0 1 f fd ["self", "name", "parent"] (spIT cK 2) := by
  refine F.ok scIK (fun vs H Q E h => ?_) (fun cdv A outer s H vs Q E hr h => ?_)
  · obtain ⟨a, dx, rest, rfl, hl, _⟩ := h
    show rest.length + 1 = _
    rw [hl]
    rfl
  · obtain ⟨a, dx, rest, rfl, hl, ha, q⟩ := h
    obtain ⟨v1, v2, rfl⟩ : ∃ v1 v2, rest = [v1, v2] := by
      match rest, hl with
      | [v1, v2], _ => exact ⟨_, _, rfl⟩
    refine ⟨_, pss_cons (ps_fld (pv 0) (pv 1) rfl) (pss_cons (ps_fld (pv 0) (pv 2) rfl) (pss_one (ps_fld (pv 0) pe_dnewK rfl))), ?_⟩
    refine ⟨_, rfl, _, rfl, a, cK, dx, _, rfl, ha, T.clK, T.nK_name, (by show 0 < 1000; decide), ?_⟩
    refine ⟨_, rfl, _, rfl, a, cK, dx, _, rfl, upd_same, T.clK, T.nK_parent, (by show 1 < 1000; decide), ?_⟩
    refine fun m hm => ?_
    refine ⟨_, rfl, a, cK, dx, _, rfl, (by rw [upd_ne (ne_of_none upd_same hm)]; exact upd_same), T.clK, T.nK_methods, (by show 2 < 1000; decide), ?_⟩
    exact q _ _ (fun b o e n => by rw [upd_ne n, upd_ne (ne_of_none (H := upd (upd H a _) a _) (by rw [upd_ne n, upd_ne n]; exact e) hm), upd_ne n, upd_ne n]; exact e) upd_same
abbrev sIC : Stmt := inClass (top 11) 0
theorem scIC : FnScope ["self", "number", "wanted", "scope"] ["self", "number", "wanted", "scope"] (defScope sIC) := ⟨rfl, rfl, rfl, by decide +kernel, rfl, by decide +kernel, by decide +kernel⟩
theorem ok_IC {f : Addr} {fd : FuncData} (F : Fun K "__init__" "Closure.__init__" sIC f fd) (T : Kt K mg cR cB cP cT cI cK cC cD cV cU cS) : FnOk P w K mg base CX0 1 f fd ["self", "number", "wanted", "scope"] (spIT cC 3) := by
  refine F.ok scIC (fun vs H Q E h => ?_) (fun cdv A outer s H vs Q E hr h => ?_)
  · obtain ⟨a, dx, rest, rfl, hl, _⟩ := h
    show rest.length + 1 = _
    rw [hl]
    rfl
  · obtain ⟨a, dx, rest, rfl, hl, ha, q⟩ := h
    obtain ⟨v1, v2, v3, rfl⟩ : ∃ v1 v2 v3, rest = [v1, v2, v3] := by
      match rest, hl with
      | [v1, v2, v3], _ => exact ⟨_, _, _, rfl⟩
    refine ⟨_, pss_cons (ps_fld (pv 0) (pv 1) rfl) (pss_cons (ps_fld (pv 0) (pv 2) rfl) (pss_one (ps_fld (pv 0) (pv 3) rfl))), ?_⟩
    refine ⟨_, rfl, _, rfl, a, cC, dx, _, rfl, ha, T.clC, T.nC_number, (by show 0 < 1000; decide), ?_⟩
    refine ⟨_, rfl, _, rfl, a, cC, dx, _, rfl, upd_same, T.clC, T.nC_wanted, (by show 1 < 1000; decide), ?_⟩
    refine ⟨_, rfl, _, rfl, a, cC, dx, _, rfl, upd_same, T.clC, T.nC_scope, (by show 2 < 1000; decide), ?_⟩
    exact q _ _ (fun b o e n => by rw [upd_ne n, upd_ne n, upd_ne n]; exact e) upd_same
abbrev sID : Stmt := inClass (top 12) 0
theorem scID : FnScope ["self", "owner", "function"] ["self", "owner", "function"] (defScope sID) := ⟨rfl, rfl, rfl, by decide +kernel, rfl, by decide +kernel, by decide +kernel⟩
theorem ok_ID {f : Addr} {fd : FuncData} (F : Fun K "__init__" "Bound.__init__" sID f fd) (T : Kt K mg cR cB cP cT cI cK cC cD cV cU cS) : FnOk P w K mg base CX0 1 f fd ["self", "owner", "function"] (spIT cD 2) := by
  refine F.ok scID (fun vs H Q E h => ?_) (fun cdv A outer s H vs Q E hr h => ?_)
  · obtain ⟨a, dx, rest, rfl, hl, _⟩ := h
    show rest.length + 1 = _
    rw [hl]
    rfl
  · obtain ⟨a, dx, rest, rfl, hl, ha, q⟩ := h
    obtain ⟨v1, v2, rfl⟩ : ∃ v1 v2, rest = [v1, v2] := by
      match rest, hl with
      | [v1, v2], _ => exact ⟨_, _, rfl⟩
    refine ⟨_, pss_cons (ps_fld (pv 0) (pv 1) rfl) (pss_one (ps_fld (pv 0) (pv 2) rfl)), ?_⟩
    refine ⟨_, rfl, _, rfl, a, cD, dx, _, rfl, ha, T.clD, T.nD_owner, (by show 0 < 1000; decide), ?_⟩
    refine ⟨_, rfl, _, rfl, a, cD, dx, _, rfl, upd_same, T.clD, T.nD_function, (by show 1 < 1000; decide), ?_⟩
    exact q _ _ (fun b o e n => by rw [upd_ne n, upd_ne n]; exact e) upd_same
abbrev sIV : Stmt := inClass (top 13) 0
theorem scIV : FnScope ["self", "value"] ["self", "value"] (defScope sIV) := ⟨rfl, rfl, rfl, by decide +kernel, rfl, by decide +kernel, by decide +kernel⟩
theorem ok_IV {f : Addr} {fd : FuncData} (F : Fun K "__init__" "Variable.__init__" sIV f fd) (T : Kt K mg cR cB cP cT cI cK cC cD cV cU cS) : FnOk P w K mg base CX0 1 f fd ["self", "value"] (spIT cV 1) := by
  refine F.ok scIV (fun vs H Q E h => ?_) (fun cdv A outer s H vs Q E hr h => ?_)
  · obtain ⟨a, dx, rest, rfl, hl, _⟩ := h
    show rest.length + 1 = _
    rw [hl]
    rfl
  · obtain ⟨a, dx, rest, rfl, hl, ha, q⟩ := h
    obtain ⟨v1, rfl⟩ : ∃ v1, rest = [v1] := by
      match rest, hl with
      | [v1], _ => exact ⟨_, rfl⟩
    refine ⟨_, pss_one (ps_fld (pv 0) (pv 1) rfl), ?_⟩
    refine ⟨_, rfl, _, rfl, a, cV, dx, _, rfl, ha, T.clV, T.nV_value, (by show 0 < 1000; decide), ?_⟩
    exact q _ _ (fun b o e n => by rw [upd_ne n]; exact e) upd_same
abbrev sIU : Stmt := inClass (top 14) 0
theorem scIU : FnScope ["self", "rest"] ["self", "rest"] (defScope sIU) := ⟨rfl, rfl, rfl, by decide +kernel, rfl, by decide +kernel, by decide +kernel⟩
theorem ok_IU {f : Addr} {fd : FuncData} (F : Fun K "__init__" "Cursor.__init__" sIU f fd) (T : Kt K mg cR cB cP cT cI cK cC cD cV cU cS) (B : Bl mg) : FnOk P w K mg base CX0 1 f fd ["self", "rest"] (spIL K cU) := by
  refine F.ok scIU (fun vs H Q E h => ?_) (fun cdv A outer s H vs Q E hr h => ?_)
  · obtain ⟨a, dx, l, xs, rfl, _⟩ := h
    rfl
  · obtain ⟨a, dx, l, xs, rfl, ha, hl, q⟩ := h
    refine ⟨_, pss_one (ps_fld (pv 0) (pe_callTy call_list_of (by rfl) B.list (by decide +kernel) (pa_cons (pv 1) pa_nil)) rfl), ?_⟩
    refine ⟨_, rfl, l, xs, rfl, .inl hl, fun m hm => ⟨_, rfl, a, cU, dx, [], rfl, (by rw [upd_ne (ne_of_none ha hm)]; exact ha), T.clU, T.nU_rest, (by show 0 < 1000; decide), ?_⟩⟩
    exact q _ _ (fun b o e n => by rw [upd_ne n, upd_ne (ne_of_none e hm)]; exact e) upd_same
end
end My
namespace My
open PySem L2 SX
open C8 (pss_cut tCut cutS_slice pe_gc)
/-! ### the values of the law -/
inductive Dv where
  | non | bl (b : Bool) | int (i : Int) | str (s : Str) | obj (n : Int) | bi (s : Str)
  deriving DecidableEq
def Has (cR cB : Addr) (H : Hp) : V → Dv → Prop := fun v d => match d with
  | .non => v = .non
  | .bl b => v = .bl b
  | .int i => v = .int i
  | .str s => v = .str s
  | .obj n => ∃ a dx, v = .ref a ∧ H a = some (.ins cR dx [("number", .int n)])
  | .bi s => ∃ a dx, v = .ref a ∧ H a = some (.ins cB dx [("name", .str s)])
theorem Has.same {cR cB : Addr} {H H' : Hp} (s : Same H H') {v : V} {d : Dv} (h : Has cR cB H v d) : Has cR cB H' v d := by
  cases d with
  | obj n =>
    obtain ⟨a, dx, e, h⟩ := h
    exact ⟨a, dx, e, s _ _ h⟩
  | bi n =>
    obtain ⟨a, dx, e, h⟩ := h
    exact ⟨a, dx, e, s _ _ h⟩
  | _ => exact h
theorem Has.keep {cR cB : Addr} {H H' : Hp} {p : Addr} {xs : List V} (s : Keep p H H') (hp : H p = some (.lst xs)) {v : V} {d : Dv} (h : Has cR cB H v d) : Has cR cB H' v d := by
  cases d with
  | obj n =>
    obtain ⟨a, dx, e, h⟩ := h
    refine ⟨a, dx, e, s _ _ h fun z => ?_⟩
    rw [z, hp] at h
    cases h
  | bi n =>
    obtain ⟨a, dx, e, h⟩ := h
    refine ⟨a, dx, e, s _ _ h fun z => ?_⟩
    rw [z, hp] at h
    cases h
  | _ => exact h
def isB : Dv → Bool
  | .bl _ => true
  | _ => false
def tyD (cR cB : Addr) : Dv → Value
  | .non => .type "NoneType"
  | .bl _ => .type "bool"
  | .int _ => .type "int"
  | .str _ => .type "str"
  | .obj _ => .ref cR
  | .bi _ => .ref cB
section
variable {P : Program} {w : World} {K : PySem.W.Frag} {mg : Str → Option Value} {base : Heap} {cR cB cP cT cI cK cC cD cV cU cS : Addr}
theorem has_ty (T : Kt K mg cR cB cP cT cI cK cC cD cV cU cS) {H : Hp} {v : V} {d : Dv} (h : Has cR cB H v d) : TyX K H v (tyD cR cB d) := by
  cases d with
  | non => cases h; exact .base .non
  | bl b => cases h; exact .base (.bl b)
  | int b => cases h; exact .base (.int b)
  | str b => cases h; exact .base (.str b)
  | obj n =>
    obtain ⟨a, dx, rfl, h⟩ := h
    exact T.tyR h
  | bi n =>
    obtain ⟨a, dx, rfl, h⟩ := h
    exact T.tyB h
theorem kit_bool (T : Kt K mg cR cB cP cT cI cK cC cD cV cU cS) (d : Dv) : PySem.W.kitOne K (tyD cR cB d) (.type "bool") = some (isB d) := by
  cases d with
  | non => exact kit_ty (by decide +kernel)
  | bl b => exact kit_ty (show kitB "bool" "bool" = some true by decide +kernel)
  | int b => exact kit_ty (show kitB "int" "bool" = some false by decide +kernel)
  | str b => exact kit_ty (show kitB "str" "bool" = some false by decide +kernel)
  | obj n => exact T.qRbool
  | bi n => exact T.qBbool
def isI : Dv → Bool
  | .bl _ => true
  | .int _ => true
  | _ => false
theorem kit_int (T : Kt K mg cR cB cP cT cI cK cC cD cV cU cS) (d : Dv) : PySem.W.kitOne K (tyD cR cB d) (.type "int") = some (isI d) := by
  cases d with
  | non => exact kit_ty (by decide +kernel)
  | bl b => exact kit_ty (show kitB "bool" "int" = some true by decide +kernel)
  | int b => exact kit_ty (show kitB "int" "int" = some true by decide +kernel)
  | str b => exact kit_ty (show kitB "str" "int" = some false by decide +kernel)
  | obj n => exact T.qRint
  | bi n => exact T.qBint
def isS : Dv → Bool
  | .str _ => true
  | _ => false
theorem kit_str (T : Kt K mg cR cB cP cT cI cK cC cD cV cU cS) (d : Dv) : PySem.W.kitOne K (tyD cR cB d) (.type "str") = some (isS d) := by
  cases d with
  | non => exact kit_ty (by decide +kernel)
  | bl b => exact kit_ty (show kitB "bool" "str" = some false by decide +kernel)
  | int b => exact kit_ty (show kitB "int" "str" = some false by decide +kernel)
  | str b => exact kit_ty (show kitB "str" "str" = some true by decide +kernel)
  | obj n => exact T.qRstr
  | bi n => exact T.qBstr
def isR : Dv → Bool
  | .obj _ => true
  | _ => false
theorem kit_R (T : Kt K mg cR cB cP cT cI cK cC cD cV cU cS) (d : Dv) : PySem.W.kitOne K (tyD cR cB d) (.ref cR) = some (isR d) := by
  cases d with
  | non => exact T.qNoneTypeR
  | bl b => exact T.qboolR
  | int b => exact T.qintR
  | str b => exact T.qstrR
  | obj n => exact kit_self _
  | bi n => exact T.qBR
def isBi : Dv → Bool
  | .bi _ => true
  | _ => false
theorem kit_B (T : Kt K mg cR cB cP cT cI cK cC cD cV cU cS) (d : Dv) : PySem.W.kitOne K (tyD cR cB d) (.ref cB) = some (isBi d) := by
  cases d with
  | non => exact T.qNoneTypeB
  | bl b => exact T.qboolB
  | int b => exact T.qintB
  | str b => exact T.qstrB
  | obj n => exact T.qRB
  | bi n => exact kit_self _
theorem fits_isB {d e : Dv} : (isB d == isB e && decide (d = e)) = decide (d = e) := by
  by_cases h : d = e
  · subst h
    simp
  · simp [h]
/-! ### == of Ref and Builtin -/
abbrev sER : Stmt := inClass (top 3) 1
theorem scER : FnScope ["self", "other"] ["self", "other"] (defScope sER) := ⟨rfl, rfl, rfl, by decide +kernel, rfl, by decide +kernel, by decide +kernel⟩
def spER (cR cB : Addr) : Sp := fun vs H Q _ => ∃ a dx n y d, vs = [.ref a, y] ∧ H a = some (.ins cR dx [("number", .int n)]) ∧ Has cR cB H y d ∧ Q (.bl (decide (Dv.obj n = d))) H
theorem ok_ER {f : Addr} {fd : FuncData} (F : Fun K "__eq__" "Ref.__eq__" sER f fd) (T : Kt K mg cR cB cP cT cI cK cC cD cV cU cS) (B : Bl mg) : FnOk P w K mg base CX0 1 f fd ["self", "other"] (spER cR cB) := by
  refine F.ok scER (fun vs H Q E h => ?_) (fun cdv A outer s H vs Q E hr h => ?_)
  · obtain ⟨a, dx, n, y, d, rfl, _⟩ := h
    rfl
  · obtain ⟨a, dx, n, y, d, rfl, ha, hy, q⟩ := h
    refine ⟨_, pss_one (ps_ret (pe_and (pe_callB call_isi (by rfl) B.isinstance (by decide +kernel) (pa_cons (pv 1) (pa_cons (pe_gc (v := .ref cR) (by rfl) ⟨_, T.gR, rfl⟩) pa_nil))) (pe_one (pe_cmpR op_eq (pe_fld (pv 0) rfl) (pe_fld (pv 1) rfl) (nomark _))))), ?_⟩
    refine ⟨_, rfl, y, .ref cR, tyD cR cB d, .ref cR, isR d, rfl, .own _, has_ty T hy, kit_R T d, isR d, rfl, ?_⟩
    cases d with
    | obj m =>
      obtain ⟨b, dy, rfl, hb⟩ := hy
      refine iteT ⟨_, rfl, a, cR, dx, _, _, rfl, ha, T.clR, T.nR_number, lk_hit, _, rfl, b, cR, dy, _, _, rfl, hb, T.clR, T.nR_number, lk_hit, rfl, ?_⟩
      rw [show decide (V.int n = V.int m) = decide (Dv.obj n = Dv.obj m) by simp]
      exact q
    | _ => exact iteF (by simpa using q)
abbrev sEB : Stmt := inClass (top 4) 1
theorem scEB : FnScope ["self", "other"] ["self", "other"] (defScope sEB) := ⟨rfl, rfl, rfl, by decide +kernel, rfl, by decide +kernel, by decide +kernel⟩
def spEB (cR cB : Addr) : Sp := fun vs H Q _ => ∃ a dx n y d, vs = [.ref a, y] ∧ H a = some (.ins cB dx [("name", .str n)]) ∧ Has cR cB H y d ∧ Q (.bl (decide (Dv.bi n = d))) H
theorem ok_EB {f : Addr} {fd : FuncData} (F : Fun K "__eq__" "Builtin.__eq__" sEB f fd) (T : Kt K mg cR cB cP cT cI cK cC cD cV cU cS) (B : Bl mg) : FnOk P w K mg base CX0 1 f fd ["self", "other"] (spEB cR cB) := by
  refine F.ok scEB (fun vs H Q E h => ?_) (fun cdv A outer s H vs Q E hr h => ?_)
  · obtain ⟨a, dx, n, y, d, rfl, _⟩ := h
    rfl
  · obtain ⟨a, dx, n, y, d, rfl, ha, hy, q⟩ := h
    refine ⟨_, pss_one (ps_ret (pe_and (pe_callB call_isi (by rfl) B.isinstance (by decide +kernel) (pa_cons (pv 1) (pa_cons (pe_gc (v := .ref cB) (by rfl) ⟨_, T.gB, rfl⟩) pa_nil))) (pe_one (pe_cmpR op_eq (pe_fld (pv 0) rfl) (pe_fld (pv 1) rfl) (nomark _))))), ?_⟩
    refine ⟨_, rfl, y, .ref cB, tyD cR cB d, .ref cB, isBi d, rfl, .own _, has_ty T hy, kit_B T d, isBi d, rfl, ?_⟩
    cases d with
    | bi m =>
      obtain ⟨b, dy, rfl, hb⟩ := hy
      refine iteT ⟨_, rfl, a, cB, dx, _, _, rfl, ha, T.clB, T.nB_name, lk_hit, _, rfl, b, cB, dy, _, _, rfl, hb, T.clB, T.nB_name, lk_hit, rfl, ?_⟩
      rw [show decide (V.str n = V.str m) = decide (Dv.bi n = Dv.bi m) by simp]
      exact q
    | _ => exact iteF (by simpa using q)
/-- the own ==s, ready to be used -/
structure Eqs (P : Program) (w : World) (K : PySem.W.Frag) (mg : Str → Option Value) (base : Heap) (cR cB fR fB : Addr) (gR gB : FuncData) : Prop where
  oR : OwnEq K cR fR
  oB : OwnEq K cB fB
  FR : FnOk P w K mg base CX0 1 fR gR ["self", "other"] (spER cR cB)
  FB : FnOk P w K mg base CX0 1 fB gB ["self", "other"] (spEB cR cB)
  bR : Binds K gR ["self", "other"] []
  bB : Binds K gB ["self", "other"] []
/-- == of two values of the law -/
def rEqM (cR cB : Addr) : R2 := fun x y H Q => ∃ d e, Has cR cB H x d ∧ Has cR cB H y e ∧ isB d = isB e ∧ Q (.bl (decide (d = e))) H
theorem op_eqM {X : Cx} {fR fB : Addr} {gR gB : FuncData} (T : Kt X.K X.mg cR cB cP cT cI cK cC cD cV cU cS) (Z : Eqs X.prog X.w X.K X.mg X.base cR cB fR fB gR gB) (hr : Room 1 X.A) : OpR X (compareOp .Eq) (rEqM cR cB) := by
  intro pins s σ H x y v u Q I rx ry h
  obtain ⟨d, e, hd, he, hb, q⟩ := h
  have tyE : ∀ {z : V} {g : Dv}, Has cR cB H z g → TyE H z (tyD cR cB g) := by
    intro z g hz
    cases g with
    | non => cases hz; exact .non
    | bl b => cases hz; exact .bl b
    | int b => cases hz; exact .int b
    | str b => cases hz; exact .str b
    | obj n =>
      obtain ⟨a, dx, rfl, hz⟩ := hz
      exact .ins hz
    | bi n =>
      obtain ⟨a, dx, rfl, hz⟩ := hz
      exact .ins hz
  have nfR : isB e = false → PySem.W.notFirst X.K cR (tyD cR cB e) = true := by
    intro z
    cases e with
    | non => exact T.nfRNoneType
    | bl b => cases z
    | int b => exact T.nfRint
    | str b => exact T.nfRstr
    | obj n => exact nf_self _
    | bi n => exact T.nfRB
  have nfB : isB e = false → PySem.W.notFirst X.K cB (tyD cR cB e) = true := by
    intro z
    cases e with
    | non => exact T.nfBNoneType
    | bl b => cases z
    | int b => exact T.nfBint
    | str b => exact T.nfBstr
    | obj n => exact T.nfBR
    | bi n => exact nf_self _
  have flat : ∀ {z z' : V}, x = z → y = z' → scal z z' = true → decide (z = z') = decide (d = e) → wpAny (model X.prog X.w) X.A (compareOp .Eq v u) (EP X pins σ Q) X.xe s := by
    intro z z' e1 e2 hs hq
    subst e1 e2
    exact op_eq pins s σ H _ _ v u Q I rx ry ⟨hs, by rw [hq]; exact q⟩
  have left : ∀ {a dx : Addr} {n : Int}, x = .ref a → H a = some (.ins cR dx [("number", .int n)]) → d = .obj n → wpAny (model X.prog X.w) X.A (compareOp .Eq v u) (EP X pins σ Q) X.xe s := by
    intro a dx n e1 ha e2
    subst e1 e2
    exact op_eqL Z.oR Z.FR Z.bR (E := E0) pass0 hr pins s σ H _ y v u Q I rx ry ⟨a, dx, _, _, rfl, ha, tyE he, nfR hb.symm, a, dx, n, y, e, rfl, ha, he, _, rfl, q⟩
  have leftB : ∀ {a dx : Addr} {n : Str}, x = .ref a → H a = some (.ins cB dx [("name", .str n)]) → d = .bi n → wpAny (model X.prog X.w) X.A (compareOp .Eq v u) (EP X pins σ Q) X.xe s := by
    intro a dx n e1 ha e2
    subst e1 e2
    exact op_eqL Z.oB Z.FB Z.bB (E := E0) pass0 hr pins s σ H _ y v u Q I rx ry ⟨a, dx, _, _, rfl, ha, tyE he, nfB hb.symm, a, dx, n, y, e, rfl, ha, he, _, rfl, q⟩
  have right : (x = .non ∨ (∃ i, x = .int i) ∨ ∃ z, x = .str z) → ∀ {a dx : Addr} {n : Int}, y = .ref a → H a = some (.ins cR dx [("number", .int n)]) → e = .obj n → wpAny (model X.prog X.w) X.A (compareOp .Eq v u) (EP X pins σ Q) X.xe s := by
    intro hx a dx n e1 ha e2
    subst e1 e2
    exact op_eqR Z.oR Z.FR Z.bR (E := E0) pass0 hr T.suRNoneType T.suRint T.suRstr pins s σ H x _ v u Q I rx ry ⟨a, dx, _, rfl, ha, hx, a, dx, n, x, d, rfl, ha, hd, _, rfl, by rw [show decide (Dv.obj n = d) = decide (d = Dv.obj n) by simp [eq_comm]]; exact q⟩
  have rightB : (x = .non ∨ (∃ i, x = .int i) ∨ ∃ z, x = .str z) → ∀ {a dx : Addr} {n : Str}, y = .ref a → H a = some (.ins cB dx [("name", .str n)]) → e = .bi n → wpAny (model X.prog X.w) X.A (compareOp .Eq v u) (EP X pins σ Q) X.xe s := by
    intro hx a dx n e1 ha e2
    subst e1 e2
    exact op_eqR Z.oB Z.FB Z.bB (E := E0) pass0 hr T.suBNoneType T.suBint T.suBstr pins s σ H x _ v u Q I rx ry ⟨a, dx, _, rfl, ha, hx, a, dx, n, x, d, rfl, ha, hd, _, rfl, by rw [show decide (Dv.bi n = d) = decide (d = Dv.bi n) by simp [eq_comm]]; exact q⟩
  cases hdd : d with
  | obj n =>
    rw [hdd] at hd
    obtain ⟨a, dx, e1, ha⟩ := hd
    exact left e1 ha hdd
  | bi n =>
    rw [hdd] at hd
    obtain ⟨a, dx, e1, ha⟩ := hd
    exact leftB e1 ha hdd
  | non =>
    have ex : x = .non := by rw [hdd] at hd; exact hd
    cases hee : e with
    | obj n =>
      rw [hee] at he
      obtain ⟨a, dx, e1, ha⟩ := he
      exact right (.inl ex) e1 ha hee
    | bi n =>
      rw [hee] at he
      obtain ⟨a, dx, e1, ha⟩ := he
      exact rightB (.inl ex) e1 ha hee
    | bl b => rw [hdd, hee] at hb; cases hb
    | _ =>
      rw [hee] at he
      exact flat ex he rfl (by rw [hdd, hee]; simp)
  | int i =>
    have ex : x = .int i := by rw [hdd] at hd; exact hd
    cases hee : e with
    | obj n =>
      rw [hee] at he
      obtain ⟨a, dx, e1, ha⟩ := he
      exact right (.inr (.inl ⟨_, ex⟩)) e1 ha hee
    | bi n =>
      rw [hee] at he
      obtain ⟨a, dx, e1, ha⟩ := he
      exact rightB (.inr (.inl ⟨_, ex⟩)) e1 ha hee
    | bl b => rw [hdd, hee] at hb; cases hb
    | _ =>
      rw [hee] at he
      exact flat ex he rfl (by rw [hdd, hee]; simp)
  | str i =>
    have ex : x = .str i := by rw [hdd] at hd; exact hd
    cases hee : e with
    | obj n =>
      rw [hee] at he
      obtain ⟨a, dx, e1, ha⟩ := he
      exact right (.inr (.inr ⟨_, ex⟩)) e1 ha hee
    | bi n =>
      rw [hee] at he
      obtain ⟨a, dx, e1, ha⟩ := he
      exact rightB (.inr (.inr ⟨_, ex⟩)) e1 ha hee
    | bl b => rw [hdd, hee] at hb; cases hb
    | _ =>
      rw [hee] at he
      exact flat ex he rfl (by rw [hdd, hee]; simp)
  | bl i =>
    have ex : x = .bl i := by rw [hdd] at hd; exact hd
    cases hee : e with
    | bl b =>
      rw [hee] at he
      exact flat ex he rfl (by rw [hdd, hee]; simp)
    | _ => rw [hdd, hee] at hb; cases hb
/-! ### equal, is_true, is_key -/
abbrev sEqual : Stmt := top 19
theorem scEqual : FnScope ["x", "y"] ["x", "y"] (defScope sEqual) := ⟨rfl, rfl, rfl, by decide +kernel, rfl, by decide +kernel, by decide +kernel⟩
def spEqual (cR cB : Addr) : Sp := fun vs H Q _ => ∃ x y d e, vs = [x, y] ∧ Has cR cB H x d ∧ Has cR cB H y e ∧ Q (.bl (decide (d = e))) H
theorem ok_equal {f fR fB : Addr} {fd gR gB : FuncData} (F : Fun K "equal" "equal" sEqual f fd) (T : Kt K mg cR cB cP cT cI cK cC cD cV cU cS) (B : Bl mg) (Z : Eqs P w K mg base cR cB fR fB gR gB) : FnOk P w K mg base CX0 2 f fd ["x", "y"] (spEqual cR cB) := by
  refine F.ok scEqual (fun vs H Q E h => ?_) (fun cdv A outer s H vs Q E hr h => ?_)
  · obtain ⟨x, y, d, e, rfl, _⟩ := h
    rfl
  · obtain ⟨x, y, d, e, rfl, hx, hy, q⟩ := h
    have tb : PySem.W.isFn K (.ref f) = PySem.W.isFn K (.ref f) := rfl
    refine ⟨_, pss_one (ps_ret (pe_and (pe_cmpR op_eq (pe_callB call_isi (by rfl) B.isinstance (by decide +kernel) (pa_cons (pv 0) (pa_cons (pe_bltn (v := .ty "bool") (by rfl) B.bool (by decide +kernel) rfl) pa_nil))) (pe_callB call_isi (by rfl) B.isinstance (by decide +kernel) (pa_cons (pv 1) (pa_cons (pe_bltn (v := .ty "bool") (by rfl) B.bool (by decide +kernel) rfl) pa_nil))) (nomark _))
      (pe_one (pe_cmpR (op_eqM T Z (hr.mono (by decide))) (pv 0) (pv 1) (nomark _))))), ?_⟩
    refine ⟨_, rfl, x, .ty "bool", tyD cR cB d, .type "bool", isB d, rfl, .ty _, has_ty T hx, kit_bool T d, _, rfl, y, .ty "bool", tyD cR cB e, .type "bool", isB e, rfl, .ty _, has_ty T hy, kit_bool T e, rfl, _, rfl, ?_⟩
    refine ite2 (fun h => ?_) (fun h => ?_)
    · have hb : isB d = isB e := by
        have := of_decide_eq_true h
        exact V.bl.inj this
      exact ⟨_, rfl, _, rfl, d, e, hx, hy, hb, q⟩
    · have hne : d ≠ e := fun z => h (by rw [z]; exact decide_eq_true rfl)
      rw [show decide (d = e) = false from decide_eq_false hne] at q
      exact q
abbrev sIsTrue : Stmt := top 18
theorem scIsTrue : FnScope ["value"] ["value"] (defScope sIsTrue) := ⟨rfl, rfl, rfl, by decide +kernel, rfl, by decide +kernel, by decide +kernel⟩
def trueD : Dv → Bool
  | .non => false
  | .bl b => b
  | _ => true
def spIsTrue (cR cB : Addr) : Sp := fun vs H Q _ => ∃ x d, vs = [x] ∧ Has cR cB H x d ∧ Q (.bl (trueD d)) H
theorem op_notBlM {X : Cx} : OpR X (compareOp .IsNot) (fun x y H Q => y = .bl false ∧ Q (.bl (!decide (x = .bl false))) H) := by
  intro pins s σ H x y v u Q I rx ry h
  obtain ⟨rfl, q⟩ := h
  cases (show u = Value.bool false from ry)
  by_cases e : x = .bl false
  · subst e
    cases (show v = Value.bool false from rx)
    exact wpAny_isNot_self rfl ⟨.bl false, H, I, rfl, by simpa using q⟩
  · have fin : EP X pins σ Q (Value.bool true) s := ⟨.bl true, H, I, rfl, by simpa [e] using q⟩
    cases x with
    | bl b =>
      cases (show v = Value.bool b from rx)
      exact wpAny_isNot_other rfl (fun z => e (by rw [Value.bool.inj z])) fin
    | int i => obtain ⟨t, rfl⟩ := (show ∃ t, v = Value.int i t from rx); exact wpAny_isNot_other rfl (fun z => nomatch z) fin
    | str i => obtain ⟨t, rfl⟩ := (show ∃ t, v = Value.str i t from rx); exact wpAny_isNot_other rfl (fun z => nomatch z) fin
    | byt i => obtain ⟨t, rfl⟩ := (show ∃ t, v = Value.bytes i t from rx); exact wpAny_isNot_other rfl (fun z => nomatch z) fin
    | flt i => obtain ⟨t, rfl⟩ := (show ∃ t, v = Value.float i t from rx); exact wpAny_isNot_other rfl (fun z => nomatch z) fin
    | non => cases (show v = Value.none from rx); exact wpAny_isNot_other rfl (fun z => nomatch z) fin
    | ref a => cases (show v = Value.ref a from rx); exact wpAny_isNot_other rfl (fun z => nomatch z) fin
    | ty n => cases (show v = Value.type n from rx); exact wpAny_isNot_other rfl (fun z => nomatch z) fin
theorem ok_is_true {f : Addr} {fd : FuncData} (F : Fun K "is_true" "is_true" sIsTrue f fd) : FnOk P w K mg base CX0 1 f fd ["value"] (spIsTrue cR cB) := by
  refine F.ok scIsTrue (fun vs H Q E h => ?_) (fun cdv A outer s H vs Q E hr h => ?_)
  · obtain ⟨x, d, rfl, _⟩ := h
    rfl
  · obtain ⟨x, d, rfl, hx, q⟩ := h
    refine ⟨_, pss_one (ps_ret (pe_and (pe_cmpR op_notN (pv 0) pe_non (nomark _)) (pe_one (pe_cmpR op_notBlM (pv 0) pe_bl (nomark _))))), ?_⟩
    refine ⟨_, rfl, rfl, _, rfl, ite2 (fun h => ⟨_, rfl, rfl, ?_⟩) (fun h => ?_)⟩
    · have hn : x ≠ .non := fun z => by rw [z] at h; exact absurd h (by decide)
      have : (!decide (x = V.bl false)) = trueD d := by
        cases d with
        | non => exact absurd hx hn
        | bl b => cases hx; cases b <;> simp [trueD]
        | int b => cases hx; simp [trueD]
        | str b => cases hx; simp [trueD]
        | obj n => obtain ⟨a, dx, rfl, _⟩ := hx; simp [trueD]
        | bi n => obtain ⟨a, dx, rfl, _⟩ := hx; simp [trueD]
      rw [this]
      exact q
    · have hn : x = .non := by
        by_cases z : x = .non
        · exact z
        · exact absurd (by simp [z]) h
      have : trueD d = false := by
        cases d with
        | non => rfl
        | bl b => rw [hn] at hx; cases hx
        | int b => rw [hn] at hx; cases hx
        | str b => rw [hn] at hx; cases hx
        | obj n => obtain ⟨a, dx, e, _⟩ := hx; rw [hn] at e; cases e
        | bi n => obtain ⟨a, dx, e, _⟩ := hx; rw [hn] at e; cases e
      rw [this] at q
      exact q
abbrev sIsKey : Stmt := top 20
theorem scIsKey : FnScope ["value"] ["value"] (defScope sIsKey) := ⟨rfl, rfl, rfl, by decide +kernel, rfl, by decide +kernel, by decide +kernel⟩
def keyD : Dv → Bool
  | .obj _ => false
  | .bi _ => false
  | _ => true
theorem kit_key (T : Kt K mg cR cB cP cT cI cK cC cD cV cU cS) (d : Dv) (hd : d ≠ .non) : PySem.W.kitAny K (tyD cR cB d) [.type "int", .type "str"] = some (keyD d) := by
  refine kitAny_cons (kit_int T d) (fun h => kitAny_cons (kit_str T d) (fun h' => ?_) (fun h' => ?_)) (fun h => ?_)
  all_goals (cases d <;> simp_all [isS, keyD, isI, PySem.W.kitAny])
def spIsKey (cR cB : Addr) : Sp := fun vs H Q _ => ∃ x d, vs = [x] ∧ Has cR cB H x d ∧ ∀ H', Same H H' → Q (.bl (keyD d)) H'
theorem ok_is_key {f : Addr} {fd : FuncData} (F : Fun K "is_key" "is_key" sIsKey f fd) (T : Kt K mg cR cB cP cT cI cK cC cD cV cU cS) (B : Bl mg) : FnOk P w K mg base CX0 1 f fd ["value"] (spIsKey cR cB) := by
  refine F.ok scIsKey (fun vs H Q E h => ?_) (fun cdv A outer s H vs Q E hr h => ?_)
  · obtain ⟨x, d, rfl, _⟩ := h
    rfl
  · obtain ⟨x, d, rfl, hx, q⟩ := h
    refine ⟨_, pss_one (ps_ret (pe_or (pe_cmpR op_isN (pv 0) pe_non (nomark _)) (pe_one (pe_callB call_isiT (by rfl) B.isinstance (by decide +kernel) (pa_cons (pv 0) (pa_cons (pe_tup (pa_cons (pe_bltn (v := .ty "int") (by rfl) B.int (by decide +kernel) rfl) (pa_cons (pe_bltn (v := .ty "str") (by rfl) B.str (by decide +kernel) rfl) pa_nil))) pa_nil)))))), ?_⟩
    refine ⟨_, rfl, rfl, _, rfl, ite2 (fun h => ?_) (fun h => ⟨_, rfl, (by show 2 ≤ sizeLine; decide), fun p hp => ?_⟩)⟩
    · have hn : x = .non := of_decide_eq_true h
      have : keyD d = true := by
        cases d with
        | obj n => obtain ⟨a, dx, e, _⟩ := hx; rw [hn] at e; cases e
        | bi n => obtain ⟨a, dx, e, _⟩ := hx; rw [hn] at e; cases e
        | _ => rfl
      have q' := q H (Same.refl _)
      rw [this] at q'
      exact q'
    · have hn : d ≠ .non := fun z => h (by rw [z] at hx; exact decide_eq_true hx)
      exact ⟨x, p, _, _, _, _, rfl, upd_same, .cons (.ty _) (.cons (.ty _) .nil), has_ty T (hx.same (same_upd hp)), kit_key T d hn, q _ (same_upd hp)⟩
end
end My
namespace My
open PySem L2 SX
open C8 (pss_cut tCut cutS_slice pe_gc)
/-- which class, and the kind that it has -/
inductive ThC (cP cT cI cK cC cD cV cU : Addr) : Addr → Str → Prop where
  | K : ThC cP cT cI cK cC cD cV cU cK "class"
  | P : ThC cP cT cI cK cC cD cV cU cP "list"
  | T : ThC cP cT cI cK cC cD cV cU cT "map"
  | I : ThC cP cT cI cK cC cD cV cU cI "instance"
  | C : ThC cP cT cI cK cC cD cV cU cC "function"
  | D : ThC cP cT cI cK cC cD cV cU cD "function"
  | V : ThC cP cT cI cK cC cD cV cU cV "function"
  | U : ThC cP cT cI cK cC cD cV cU cU "function"
section
variable {P : Program} {w : World} {K : PySem.W.Frag} {mg : Str → Option Value} {base : Heap} {cR cB cP cT cI cK cC cD cV cU cS : Addr}
/-! ### kind_of_thing -/
abbrev sKindThing : Stmt := top 17
theorem scKindThing : FnScope ["thing"] ["thing"] (defScope sKindThing) := ⟨rfl, rfl, rfl, by decide +kernel, rfl, by decide +kernel, by decide +kernel⟩
def spKindThing (cP cT cI cK cC cD cV cU : Addr) : Sp := fun vs H Q _ => ∃ a C dx fs k, vs = [.ref a] ∧ H a = some (.ins C dx fs) ∧ ThC cP cT cI cK cC cD cV cU C k ∧ Q (.str k) H
theorem ok_kind_thing {f : Addr} {fd : FuncData} (F : Fun K "kind_of_thing" "kind_of_thing" sKindThing f fd) (T : Kt K mg cR cB cP cT cI cK cC cD cV cU cS) (B : Bl mg) : FnOk P w K mg base CX0 1 f fd ["thing"] (spKindThing cP cT cI cK cC cD cV cU) := by
  refine F.ok scKindThing (fun vs H Q E h => ?_) (fun cdv A outer s H vs Q E hr h => ?_)
  · obtain ⟨a, C, dx, fs, k, rfl, _⟩ := h
    rfl
  · obtain ⟨a, C, dx, fs, k, rfl, ha, ht, q⟩ := h
    refine ⟨_, pss_cons (ps_if (pt_val (pe_callB call_isi (by rfl) B.isinstance (by decide +kernel) (pa_cons (pv 0) (pa_cons (pe_gc (v := .ref cP) (by rfl) ⟨_, T.gP, rfl⟩) pa_nil)))) (pss_one (ps_ret pe_str)) pss_nil) (pss_cons (ps_if (pt_val (pe_callB call_isi (by rfl) B.isinstance (by decide +kernel) (pa_cons (pv 0) (pa_cons (pe_gc (v := .ref cT) (by rfl) ⟨_, T.gT, rfl⟩) pa_nil)))) (pss_one (ps_ret pe_str)) pss_nil) (pss_cons (ps_if (pt_val (pe_callB call_isi (by rfl) B.isinstance (by decide +kernel) (pa_cons (pv 0) (pa_cons (pe_gc (v := .ref cI) (by rfl) ⟨_, T.gI, rfl⟩) pa_nil)))) (pss_one (ps_ret pe_str)) pss_nil) (pss_cons (ps_if (pt_val (pe_callB call_isi (by rfl) B.isinstance (by decide +kernel) (pa_cons (pv 0) (pa_cons (pe_gc (v := .ref cK) (by rfl) ⟨_, T.gK, rfl⟩) pa_nil)))) (pss_one (ps_ret pe_str)) pss_nil) (pss_one (ps_ret pe_str))))), ?_⟩
    cases ht with
    | K => exact ⟨_, rfl, .ref a, .ref cP, .ref cK, .ref cP, false, rfl, .own _, T.tyK ha, T.qKP, false, rfl, iteF ⟨_, rfl, .ref a, .ref cT, .ref cK, .ref cT, false, rfl, .own _, T.tyK ha, T.qKT, false, rfl, iteF ⟨_, rfl, .ref a, .ref cI, .ref cK, .ref cI, false, rfl, .own _, T.tyK ha, T.qKI, false, rfl, iteF ⟨_, rfl, .ref a, .ref cK, .ref cK, .ref cK, true, rfl, .own _, T.tyK ha, kit_self _, true, rfl, iteT q⟩⟩⟩⟩
    | P => exact ⟨_, rfl, .ref a, .ref cP, .ref cP, .ref cP, true, rfl, .own _, T.tyP ha, kit_self _, true, rfl, iteT q⟩
    | T => exact ⟨_, rfl, .ref a, .ref cP, .ref cT, .ref cP, false, rfl, .own _, T.tyT ha, T.qTP, false, rfl, iteF ⟨_, rfl, .ref a, .ref cT, .ref cT, .ref cT, true, rfl, .own _, T.tyT ha, kit_self _, true, rfl, iteT q⟩⟩
    | I => exact ⟨_, rfl, .ref a, .ref cP, .ref cI, .ref cP, false, rfl, .own _, T.tyI ha, T.qIP, false, rfl, iteF ⟨_, rfl, .ref a, .ref cT, .ref cI, .ref cT, false, rfl, .own _, T.tyI ha, T.qIT, false, rfl, iteF ⟨_, rfl, .ref a, .ref cI, .ref cI, .ref cI, true, rfl, .own _, T.tyI ha, kit_self _, true, rfl, iteT q⟩⟩⟩
    | C => exact ⟨_, rfl, .ref a, .ref cP, .ref cC, .ref cP, false, rfl, .own _, T.tyC ha, T.qCP, false, rfl, iteF ⟨_, rfl, .ref a, .ref cT, .ref cC, .ref cT, false, rfl, .own _, T.tyC ha, T.qCT, false, rfl, iteF ⟨_, rfl, .ref a, .ref cI, .ref cC, .ref cI, false, rfl, .own _, T.tyC ha, T.qCI, false, rfl, iteF ⟨_, rfl, .ref a, .ref cK, .ref cC, .ref cK, false, rfl, .own _, T.tyC ha, T.qCK, false, rfl, iteF q⟩⟩⟩⟩
    | D => exact ⟨_, rfl, .ref a, .ref cP, .ref cD, .ref cP, false, rfl, .own _, T.tyD ha, T.qDP, false, rfl, iteF ⟨_, rfl, .ref a, .ref cT, .ref cD, .ref cT, false, rfl, .own _, T.tyD ha, T.qDT, false, rfl, iteF ⟨_, rfl, .ref a, .ref cI, .ref cD, .ref cI, false, rfl, .own _, T.tyD ha, T.qDI, false, rfl, iteF ⟨_, rfl, .ref a, .ref cK, .ref cD, .ref cK, false, rfl, .own _, T.tyD ha, T.qDK, false, rfl, iteF q⟩⟩⟩⟩
    | V => exact ⟨_, rfl, .ref a, .ref cP, .ref cV, .ref cP, false, rfl, .own _, T.tyV ha, T.qVP, false, rfl, iteF ⟨_, rfl, .ref a, .ref cT, .ref cV, .ref cT, false, rfl, .own _, T.tyV ha, T.qVT, false, rfl, iteF ⟨_, rfl, .ref a, .ref cI, .ref cV, .ref cI, false, rfl, .own _, T.tyV ha, T.qVI, false, rfl, iteF ⟨_, rfl, .ref a, .ref cK, .ref cV, .ref cK, false, rfl, .own _, T.tyV ha, T.qVK, false, rfl, iteF q⟩⟩⟩⟩
    | U => exact ⟨_, rfl, .ref a, .ref cP, .ref cU, .ref cP, false, rfl, .own _, T.tyU ha, T.qUP, false, rfl, iteF ⟨_, rfl, .ref a, .ref cT, .ref cU, .ref cT, false, rfl, .own _, T.tyU ha, T.qUT, false, rfl, iteF ⟨_, rfl, .ref a, .ref cI, .ref cU, .ref cI, false, rfl, .own _, T.tyU ha, T.qUI, false, rfl, iteF ⟨_, rfl, .ref a, .ref cK, .ref cU, .ref cK, false, rfl, .own _, T.tyU ha, T.qUK, false, rfl, iteF q⟩⟩⟩⟩
/-! ### the store -/
def stF (t o l : Addr) : List (Str × V) := [("things", .ref t), ("output", .ref o), ("lines", .ref l), ("taken", .int 0)]
/-- which classes the things of the store are of -/
inductive Cls8 (H : Hp) : List Addr → List Addr → Prop where
  | nil : Cls8 H [] []
  | snoc {ts cs : List Addr} {x C dx : Addr} {fs : List (Str × V)} : Cls8 H ts cs → H x = some (.ins C dx fs) → Cls8 H (ts ++ [x]) (cs ++ [C])
theorem Cls8.len {H : Hp} {ts cs : List Addr} (h : Cls8 H ts cs) : ts.length = cs.length := by
  induction h with
  | nil => rfl
  | snoc _ _ ih => rw [List.length_append, List.length_append, ih]; rfl
theorem Cls8.get {H : Hp} {ts cs : List Addr} (h : Cls8 H ts cs) : ∀ {j : Nat} {C : Addr}, cs[j]? = some C → ∃ x dx fs, ts[j]? = some x ∧ H x = some (.ins C dx fs) := by
  induction h with
  | nil => intro j C e; simp at e
  | @snoc ts cs x C dx fs h hx ih =>
    intro j C' e
    by_cases hj : j < cs.length
    · rw [List.getElem?_append_left hj] at e
      obtain ⟨y, dy, gs, e1, e2⟩ := ih e
      exact ⟨y, dy, gs, by rw [List.getElem?_append_left (by rw [h.len]; exact hj)]; exact e1, e2⟩
    · have hj' : j = cs.length := by
        have := (List.getElem?_eq_some_iff.mp e).1
        rw [List.length_append, List.length_singleton] at this
        omega
      subst hj'
      rw [List.getElem?_append_right (Nat.le_refl _), Nat.sub_self] at e
      have eC : C = C' := by simpa using e
      subst eC
      refine ⟨x, dx, fs, ?_, hx⟩
      rw [← h.len, List.getElem?_append_right (Nat.le_refl _), Nat.sub_self]
      rfl
theorem Cls8.keep {H H' : Hp} {t : Addr} {xs : List V} (k : Keep t H H') (ht : H t = some (.lst xs)) {ts cs : List Addr} (h : Cls8 H ts cs) : Cls8 H' ts cs := by
  induction h with
  | nil => exact .nil
  | snoc _ hx ih => exact .snoc ih (k _ _ hx fun z => by rw [z, ht] at hx; cases hx)
theorem Cls8.same {H H' : Hp} (k : Same H H') {ts cs : List Addr} (h : Cls8 H ts cs) : Cls8 H' ts cs := by
  induction h with
  | nil => exact .nil
  | snoc _ hx ih => exact .snoc ih (k _ _ hx)
def StoreAt (cS : Addr) (H : Hp) (s t : Addr) (cs : List Addr) : Prop := ∃ dx o l ts, H s = some (.ins cS dx (stF t o l)) ∧ H t = some (.lst (ts.map V.ref)) ∧ Cls8 H ts cs
theorem StoreAt.same {H H' : Hp} (k : Same H H') {s t : Addr} {cs : List Addr} (h : StoreAt cS H s t cs) : StoreAt cS H' s t cs := by
  obtain ⟨dx, o, l, ts, h1, h2, h3⟩ := h
  exact ⟨dx, o, l, ts, k _ _ h1, k _ _ h2, h3.same k⟩
theorem StoreAt.keep {H H' : Hp} {p a : Addr} {x y : Int} (k : Keep p H H') (hp : H p = some (.lst [.int x, .int y, .ref a])) {s t : Addr} {cs : List Addr} (h : StoreAt cS H s t cs) : StoreAt cS H' s t cs := by
  obtain ⟨dx, o, l, ts, h1, h2, h3⟩ := h
  refine ⟨dx, o, l, ts, k _ _ h1 (fun z => by rw [z, hp] at h1; cases h1), k _ _ h2 (fun z => ?_), h3.keep k hp⟩
  rw [z, hp] at h2
  have := Option.some.inj h2
  injection this with e
  cases ts with
  | nil => cases e
  | cons b r => simp at e
abbrev sIS : Stmt := inClass (top 22) 0
abbrev sMake : Stmt := inClass (top 22) 1
abbrev sAt : Stmt := inClass (top 22) 2
theorem scIS : FnScope ["self", "lines"] ["self", "lines"] (defScope sIS) := ⟨rfl, rfl, rfl, by decide +kernel, rfl, by decide +kernel, by decide +kernel⟩
theorem scMake : FnScope ["self", "thing"] ["self", "thing"] (defScope sMake) := ⟨rfl, rfl, rfl, by decide +kernel, rfl, by decide +kernel, by decide +kernel⟩
theorem scAt : FnScope ["self", "ref"] ["self", "ref"] (defScope sAt) := ⟨rfl, rfl, rfl, by decide +kernel, rfl, by decide +kernel, by decide +kernel⟩
def spIS (K : PySem.W.Frag) (cS cK : Addr) : Sp := fun vs H Q _ => ∃ a dx l xs, vs = [.ref a, .ref l] ∧ H a = some (.ins cS dx []) ∧ SqL K H l xs ∧ ∀ H' t, Keep a H H' → H t = none → StoreAt cS H' a t [cK] → Q .non H'
def spMake (cS : Addr) : Sp := fun vs H Q _ => ∃ s t cs x C dx fs, vs = [.ref s, .ref x] ∧ StoreAt cS H s t cs ∧ cs.length ≤ 100 ∧ H x = some (.ins C dx fs) ∧ ∀ H' r, Keep t H H' → StoreAt cS H' s t (cs ++ [C]) → Q (.ref r) H'
def spAt (cR cS : Addr) : Sp := fun vs H Q _ => ∃ s t cs r dr n C, vs = [.ref s, .ref r] ∧ StoreAt cS H s t cs ∧ H r = some (.ins cR dr [("number", .int (n : Nat))]) ∧ cs[n]? = some C ∧ ∀ x dx fs, H x = some (.ins C dx fs) → Q (.ref x) H
theorem ok_at {f : Addr} {fd : FuncData} (F : Fun K "at" "Store.at" sAt f fd) (T : Kt K mg cR cB cP cT cI cK cC cD cV cU cS) : FnOk P w K mg base CX0 1 f fd ["self", "ref"] (spAt cR cS) := by
  refine F.ok scAt (fun vs H Q E h => ?_) (fun cdv A outer s H vs Q E hr h => ?_)
  · obtain ⟨s, t, cs, r, dr, n, C, rfl, _⟩ := h
    rfl
  · obtain ⟨s, t, cs, r, dr, n, C, rfl, ⟨dx, o, l, ts, h1, h2, h3⟩, hr', hC, q⟩ := h
    obtain ⟨x, dy, gs, e1, e2⟩ := h3.get hC
    refine ⟨_, pss_one (ps_ret (pe_ix ix_list (pe_fld (pv 0) rfl) (pe_fld (pv 1) rfl) (fun _ _ => rfl))), ?_⟩
    refine ⟨_, rfl, s, cS, dx, _, _, rfl, h1, T.clS, T.nS_things, lk_hit, _, rfl, r, cR, dr, _, _, rfl, hr', T.clR, T.nR_number, lk_hit, t, _, _, V.ref x, rfl, rfl, SqL.of h2, atI_nat ?_, q x dy gs e2⟩
    rw [List.getElem?_map, e1]
    rfl
theorem ok_make {f fR : Addr} {fd gR : FuncData} (F : Fun K "make" "Store.make" sMake f fd) (T : Kt K mg cR cB cP cT cI cK cC cD cV cU cS) (B : Bl mg) (M : Mk K cR fR) (FR : Fun K "__init__" "Ref.__init__" sIR fR gR) (bR : Binds K gR ["self", "number"] []) : FnOk P w K mg base CX0 3 f fd ["self", "thing"] (spMake cS) := by
  have GR : FnOk P w K mg base CX0 1 fR gR ["self", "number"] (spI1 cR "number") := ok_IR FR T
  refine F.ok scMake (fun vs H Q E h => ?_) (fun cdv A outer s H vs Q E hr h => ?_)
  · obtain ⟨s, t, cs, x, C, dx, fs, rfl, _⟩ := h
    rfl
  · obtain ⟨s, t, cs, x, C, dx, fs, rfl, ⟨ds, o, l, ts, h1, h2, h3⟩, hlen, hx, q⟩ := h
    have nst : s ≠ t := fun z => by rw [z, h2] at h1; cases h1
    refine ⟨_, pss_cons (ps_expr (pe_bm PySem.F.plainAttrs_list PySem.F.slot_list_append PySem.F.type_list_append mt_append (pe_fld (pv 0) rfl) (pa_cons (pv 1) pa_nil)))
      (pss_one (ps_ret (pe_make M GR hr (by rfl) T.gR bR .nil pass0 (pa_cons (pe_op op_sub (pe_callB call_len_seq (by rfl) B.len PySem.boot_len (pa_cons (pe_fld (pv 0) rfl) pa_nil)) pe_int) pa_nil)))), ?_⟩
    have hl := h3.len
    refine ⟨_, rfl, s, cS, ds, _, _, rfl, h1, T.clS, T.nS_things, lk_hit, .inl ⟨rfl, _, SqL.of h2⟩, _, rfl, t, _, _, rfl, rfl, h2, (by rw [List.length_map, sizeLine_eq]; omega), ?_⟩
    refine ⟨_, rfl, s, cS, ds, _, _, rfl, (by rw [upd_ne nst]; exact h1), T.clS, T.nS_things, lk_hit, t, _, rfl, .inl (SqL.of upd_same), _, _, rfl, rfl, fun y dy ny ndy nyd => ?_⟩
    refine ⟨y, dy, _, rfl, upd_same, rfl, ?_⟩
    have s1 : Same (upd H t (.lst (ts.map V.ref ++ [V.ref x]))) (upd (upd (upd (upd H t (.lst (ts.map V.ref ++ [V.ref x]))) dy (.own y)) y (.ins cR dy [])) y (.ins cR dy [("number", .int (((ts.map V.ref ++ [V.ref x]).length : Nat) - 1))])) := Same.made ny ndy fun b o e n => by
      rw [upd_ne n]
      exact e
    have k1 : Keep t H (upd H t (.lst (ts.map V.ref ++ [V.ref x]))) := keep_upd
    refine q _ y (k1.trans (Same.keep s1)) ⟨ds, o, l, ts ++ [x], s1 _ _ (by rw [upd_ne nst]; exact h1), s1 _ _ (by rw [upd_same, List.map_append]; rfl), ?_⟩
    exact ((h3.keep k1 h2).snoc (k1 _ _ hx fun z => by rw [z, h2] at hx; cases hx)).same s1
theorem ok_IS {f fK : Addr} {fd gK : FuncData} (F : Fun K "__init__" "Store.__init__" sIS f fd) (T : Kt K mg cR cB cP cT cI cK cC cD cV cU cS) (B : Bl mg) (M : Mk K cK fK) (FK : Fun K "__init__" "Kin.__init__" sIK fK gK) (bK : Binds K gK ["self", "name", "parent"] []) : FnOk P w K mg base CX0 3 f fd ["self", "lines"] (spIS K cS cK) := by
  have GK : FnOk P w K mg base CX0 1 fK gK ["self", "name", "parent"] (spIT cK 2) := ok_IK FK T
  refine F.ok scIS (fun vs H Q E h => ?_) (fun cdv A outer s H vs Q E hr h => ?_)
  · obtain ⟨a, dx, l, xs, rfl, _⟩ := h
    rfl
  · obtain ⟨a, dx, l, xs, rfl, ha, hl, q⟩ := h
    refine ⟨_, pss_cons (ps_fld (pv 0) (pe_lst (pa_cons (pe_make M GK hr (by rfl) T.gK bK .nil pass0 (pa_cons pe_str (pa_cons pe_non pa_nil))) pa_nil)) rfl)
      (pss_cons (ps_fld (pv 0) (pe_lst pa_nil) rfl) (pss_cons (ps_fld (pv 0) (pe_callTy call_list_of (by rfl) B.list (by decide +kernel) (pa_cons (pv 1) pa_nil)) rfl) (pss_one (ps_fld (pv 0) pe_int rfl)))), ?_⟩
    intro y dy ny ndy nyd
    refine ⟨y, dy, _, rfl, rfl, upd_same, fun H1 fs k1 hy => ⟨rfl, ?_⟩⟩
    have s1 : Same H H1 := Same.made ny ndy k1
    refine ⟨(by show 1 ≤ sizeLine; decide), fun t nt => ?_⟩
    have nt0 : H t = none := s1.free nt
    have ha1 := s1 _ _ ha
    have nat : a ≠ t := ne_of_none ha1 nt
    refine ⟨_, rfl, a, cS, dx, [], rfl, (by rw [upd_ne nat]; exact ha1), T.clS, T.nS_things, (by show 0 < 1000; decide), ?_⟩
    refine ⟨Nat.zero_le _, fun o no => ?_⟩
    have nao : a ≠ o := ne_of_none upd_same no
    refine ⟨_, rfl, a, cS, dx, _, rfl, (by rw [upd_ne nao]; exact upd_same), T.clS, T.nS_output, (by show 1 < 1000; decide), ?_⟩
    have hne : ∀ b ob, H b = some ob → b ≠ y ∧ b ≠ t ∧ (b ≠ a → b ≠ o) := fun b ob e => by
      have e1 := s1 _ _ e
      refine ⟨(fun z => by rw [z, ny] at e; cases e), (fun z => by rw [z, nt] at e1; cases e1), fun n z => ?_⟩
      subst z
      rw [upd_ne n, upd_ne (fun z => by rw [z, nt] at e1; cases e1)] at no
      rw [no] at e1
      cases e1
    have nyt : y ≠ t := ne_of_none hy nt
    have nya : y ≠ a := fun z => by rw [z, ha] at ny; cases ny
    have nyo : y ≠ o := fun z => by
      subst z
      rw [upd_ne nya, upd_ne nyt, hy] at no
      cases no
    have nto : t ≠ o := fun z => by
      subst z
      rw [upd_ne nat.symm, upd_same] at no
      cases no
    refine ⟨_, rfl, l, xs, rfl, .inl ?_, fun m hm => ?_⟩
    · have nl : ∀ ob, H l = some ob → ob ≠ .ins cS dx [] → (upd (upd (upd (upd H1 t (.lst [V.ref y])) a (.ins cS dx (putF "things" (V.ref t) []))) o (.lst [])) a (.ins cS dx (putF "output" (V.ref o) (putF "things" (V.ref t) [])))) l = some ob := fun ob e n => by
        have na : l ≠ a := fun z => n (by rw [z, ha] at e; exact (Option.some.inj e).symm)
        obtain ⟨_, n2, n3⟩ := hne _ _ e
        rw [upd_ne na, upd_ne (n3 na), upd_ne na, upd_ne n2]
        exact s1 _ _ e
      rcases hl with (hl | ⟨ob, hl⟩) | hl
      · exact .inl (.inl (nl _ hl nofun))
      · exact .inl (.inr ⟨ob, nl _ hl nofun⟩)
      · exact .inr hl
    · have nam : a ≠ m := ne_of_none upd_same hm
      refine ⟨_, rfl, a, cS, dx, _, rfl, (by rw [upd_ne nam]; exact upd_same), T.clS, T.nS_lines, (by show 2 < 1000; decide), ?_⟩
      refine ⟨_, rfl, a, cS, dx, _, rfl, upd_same, T.clS, T.nS_taken, (by show 3 < 1000; decide), ?_⟩
      have nym : y ≠ m := fun z => by
        subst z
        rw [upd_ne nya, upd_ne nyo, upd_ne nya, upd_ne nyt, hy] at hm
        cases hm
      have ntm : t ≠ m := fun z => by
        subst z
        rw [upd_ne nat.symm, upd_ne nto, upd_ne nat.symm, upd_same] at hm
        cases hm
      refine q _ t (fun b ob e n => ?_) nt0 ⟨dx, o, m, [y], ?_, ?_, ?_⟩
      · obtain ⟨_, n2, n3⟩ := hne _ _ e
        have nbm : b ≠ m := fun z => by
          subst z
          rw [upd_ne n, upd_ne (n3 n), upd_ne n, upd_ne n2, s1 _ _ e] at hm
          cases hm
        rw [upd_ne n, upd_ne n, upd_ne nbm, upd_ne n, upd_ne (n3 n), upd_ne n, upd_ne n2]
        exact s1 _ _ e
      · rw [upd_same]
        rfl
      · rw [upd_ne nat.symm, upd_ne nat.symm, upd_ne ntm, upd_ne nat.symm, upd_ne nto, upd_ne nat.symm, upd_same]
        rfl
      · refine Cls8.snoc (ts := []) (cs := []) .nil (x := y) (dx := dy) (fs := fs) ?_
        rw [upd_ne nya, upd_ne nya, upd_ne nym, upd_ne nya, upd_ne nyo, upd_ne nya, upd_ne nyt]
        exact hy
end
end My
namespace My
open PySem L2 SX
open C8 (pss_cut tCut cutS_slice pe_gc)
theorem op_mul_str {X : Cx} : OpR X (binaryOp .Mult) (fun x y H Q => ∃ z n, x = .str z ∧ y = .int n ∧ MulOk z n ∧ Q (.str (Txt.mul z n)) H) := by
  intro pins s σ H x y v u Q I rx ry h
  obtain ⟨z, n, rfl, rfl, hz, q⟩ := h
  obtain ⟨t, rfl⟩ := rx
  obtain ⟨t', rfl⟩ := ry
  exact SB.mul hz (fun t' tk => ⟨.str (Txt.mul z n), H, I.tok _, ⟨_, rfl⟩, q⟩)
/-! ### kinds of the values -/
def kindO (n : Int) : Str := if n = 0 then "class" else if n = 1 then "list" else if n = 2 then "map" else if n = 3 then "instance" else "function"
def kindK : Dv → Str
  | .non => "null"
  | .bl _ => "boolean"
  | .int _ => "integer"
  | .str _ => "text"
  | .bi _ => "function"
  | .obj n => kindO n
def kindS : Dv → Str
  | .non => "null"
  | .bl _ => "boolean"
  | .int _ => "integer"
  | .str _ => "text"
  | .bi _ => "built-in"
  | .obj _ => "object"
def tagV : Dv → V
  | .non => .non
  | .bl b => .int (if b = true then 1 else 0)
  | .int i => .int i
  | .str s => .str s
  | .bi s => .str s
  | .obj n => .int n
def okD : Dv → Prop
  | .obj n => 0 ≤ n ∧ n < 8
  | _ => True
theorem st_at (t o l : Addr) : (stF t o l).lookup ("at" : Str) = none := by
  unfold stF
  rw [lk_skip (by decide +kernel), lk_skip (by decide +kernel), lk_skip (by decide +kernel), lk_skip (by decide +kernel)]
  rfl
theorem st_make (t o l : Addr) : (stF t o l).lookup ("make" : Str) = none := by
  unfold stF
  rw [lk_skip (by decide +kernel), lk_skip (by decide +kernel), lk_skip (by decide +kernel), lk_skip (by decide +kernel)]
  rfl
section
variable {P : Program} {w : World} {K : PySem.W.Frag} {mg : Str → Option Value} {base : Heap} {cR cB cP cT cI cK cC cD cV cU cS : Addr}
theorem eight {cP cT cI cK cC cD cV cU : Addr} {n : Int} (h0 : 0 ≤ n) (h8 : n < 8) : ∃ (j : Nat) (C : Addr), n = (j : Int) ∧ [cK, cP, cT, cI, cC, cD, cV, cU][j]? = some C ∧ ThC cP cT cI cK cC cD cV cU C (kindO n) := by
  have h : n = 0 ∨ n = 1 ∨ n = 2 ∨ n = 3 ∨ n = 4 ∨ n = 5 ∨ n = 6 ∨ n = 7 := by omega
  rcases h with rfl | rfl | rfl | rfl | rfl | rfl | rfl | rfl
  · exact ⟨0, cK, rfl, rfl, .K⟩
  · exact ⟨1, cP, rfl, rfl, .P⟩
  · exact ⟨2, cT, rfl, rfl, .T⟩
  · exact ⟨3, cI, rfl, rfl, .I⟩
  · exact ⟨4, cC, rfl, rfl, .C⟩
  · exact ⟨5, cD, rfl, rfl, .D⟩
  · exact ⟨6, cV, rfl, rfl, .V⟩
  · exact ⟨7, cU, rfl, rfl, .U⟩
abbrev sKindOf : Stmt := top 16
theorem scKindOf : FnScope ["store", "value"] ["store", "value"] (defScope sKindOf) := ⟨rfl, rfl, rfl, by decide +kernel, rfl, by decide +kernel, by decide +kernel⟩
def spKindOf (cR cB cP cT cI cK cC cD cV cU cS : Addr) : Sp := fun vs H Q _ => ∃ s t v d, vs = [.ref s, v] ∧ StoreAt cS H s t [cK, cP, cT, cI, cC, cD, cV, cU] ∧ Has cR cB H v d ∧ okD d ∧ Q (.str (kindK d)) H
theorem ok_kind_of {f fT fA : Addr} {fd gT gA : FuncData} (F : Fun K "kind_of" "kind_of" sKindOf f fd) (T : Kt K mg cR cB cP cT cI cK cC cD cV cU cS) (B : Bl mg) (FT : Fun K "kind_of_thing" "kind_of_thing" sKindThing fT gT) (bT : Binds K gT ["thing"] []) (mT : mg "kind_of_thing" = some (.ref fT))
    (FA : Fun K "at" "Store.at" sAt fA gA) (bA : Binds K gA ["self", "ref"] []) (mA : Meth K cS "at" fA) : FnOk P w K mg base CX0 2 f fd ["store", "value"] (spKindOf cR cB cP cT cI cK cC cD cV cU cS) := by
  have GT : FnOk P w K mg base CX0 1 fT gT ["thing"] (spKindThing cP cT cI cK cC cD cV cU) := ok_kind_thing FT T B
  have GA : FnOk P w K mg base CX0 1 fA gA ["self", "ref"] (spAt cR cS) := ok_at FA T
  refine F.ok scKindOf (fun vs H Q E h => ?_) (fun cdv A outer s H vs Q E hr h => ?_)
  · obtain ⟨s, t, v, d, rfl, _⟩ := h
    rfl
  · obtain ⟨s, t, v, d, rfl, hs, hv, hd, q⟩ := h
    refine ⟨_, pss_cons (ps_if (pt_cmpR op_isN (pv 1) pe_non (nomark _)) (pss_one (ps_ret pe_str)) pss_nil)
      (pss_cons (ps_if (pt_val (pe_callB call_isi (by rfl) B.isinstance (by decide +kernel) (pa_cons (pv 1) (pa_cons (pe_bltn (v := .ty "bool") (by rfl) B.bool (by decide +kernel) rfl) pa_nil)))) (pss_one (ps_ret pe_str)) pss_nil)
      (pss_cons (ps_if (pt_val (pe_callB call_isi (by rfl) B.isinstance (by decide +kernel) (pa_cons (pv 1) (pa_cons (pe_bltn (v := .ty "int") (by rfl) B.int (by decide +kernel) rfl) pa_nil)))) (pss_one (ps_ret pe_str)) pss_nil)
      (pss_cons (ps_if (pt_val (pe_callB call_isi (by rfl) B.isinstance (by decide +kernel) (pa_cons (pv 1) (pa_cons (pe_bltn (v := .ty "str") (by rfl) B.str (by decide +kernel) rfl) pa_nil)))) (pss_one (ps_ret pe_str)) pss_nil)
      (pss_cons (ps_if (pt_val (pe_callB call_isi (by rfl) B.isinstance (by decide +kernel) (pa_cons (pv 1) (pa_cons (pe_gc (v := .ref cR) (by rfl) ⟨_, T.gR, rfl⟩) pa_nil))))
        (pss_one (ps_ret (pe_call GT hr (by rfl) mT FT.kp bT .nil pass0 (pa_cons (pe_meth (pv 0) T.clS mA GA hr bA .nil pass0 (pa_cons (pv 1) pa_nil)) pa_nil)))) pss_nil)
      (pss_one (ps_ret pe_str)))))), ?_⟩
    have ty := has_ty T hv
    cases d with
    | non =>
      cases hv
      exact ⟨_, rfl, rfl, _, rfl, ite2 (fun _ => q) (fun h => absurd (decide_eq_true rfl) h)⟩
    | bl b =>
      cases hv
      exact ⟨_, rfl, rfl, _, rfl, by simp; exact ⟨_, rfl, _, _, _, _, true, rfl, .ty _, ty, kit_bool T _, true, rfl, iteT q⟩⟩
    | int b =>
      cases hv
      exact ⟨_, rfl, rfl, _, rfl, by simp; exact ⟨_, rfl, _, _, _, _, false, rfl, .ty _, ty, kit_bool T _, false, rfl, iteF ⟨_, rfl, _, _, _, _, true, rfl, .ty _, ty, kit_int T _, true, rfl, iteT q⟩⟩⟩
    | str b =>
      cases hv
      exact ⟨_, rfl, rfl, _, rfl, by simp; exact ⟨_, rfl, _, _, _, _, false, rfl, .ty _, ty, kit_bool T _, false, rfl, iteF ⟨_, rfl, _, _, _, _, false, rfl, .ty _, ty, kit_int T _, false, rfl, iteF ⟨_, rfl, _, _, _, _, true, rfl, .ty _, ty, kit_str T _, true, rfl, iteT q⟩⟩⟩⟩
    | bi b =>
      obtain ⟨a, dx, rfl, _⟩ := hv
      exact ⟨_, rfl, rfl, _, rfl, by simp; exact ⟨_, rfl, _, _, _, _, false, rfl, .ty _, ty, kit_bool T _, false, rfl, iteF ⟨_, rfl, _, _, _, _, false, rfl, .ty _, ty, kit_int T _, false, rfl, iteF ⟨_, rfl, _, _, _, _, false, rfl, .ty _, ty, kit_str T _, false, rfl, iteF
        ⟨_, rfl, _, .ref cR, _, _, false, rfl, .own _, ty, kit_R T _, false, rfl, iteF q⟩⟩⟩⟩⟩
    | obj n =>
      obtain ⟨a, dx, rfl, ha⟩ := hv
      obtain ⟨j, C, e, hC, hk⟩ := eight (cP := cP) (cT := cT) (cI := cI) (cK := cK) (cC := cC) (cD := cD) (cV := cV) (cU := cU) hd.1 hd.2
      obtain ⟨ds, o, l, ts, h1, h2, h3⟩ := id hs
      refine ⟨_, rfl, rfl, _, rfl, by simp; exact ⟨_, rfl, _, _, _, _, false, rfl, .ty _, ty, kit_bool T _, false, rfl, iteF ⟨_, rfl, _, _, _, _, false, rfl, .ty _, ty, kit_int T _, false, rfl, iteF ⟨_, rfl, _, _, _, _, false, rfl, .ty _, ty, kit_str T _, false, rfl, iteF
        ⟨_, rfl, _, .ref cR, _, _, true, rfl, .own _, ty, kit_R T _, true, rfl, iteT ⟨_, rfl, s, ds, _, rfl, h1, st_at _ _ _, _, rfl, s, t, _, a, dx, j, C, rfl, hs, by rw [← e]; exact ha, hC, fun x dy fs hx => ⟨x, C, dy, fs, _, rfl, hx, hk, q⟩⟩⟩⟩⟩⟩⟩
/-! ### the draws -/
def StL (K : PySem.W.Frag) (H : Hp) (a p : Addr) (ns : List Int) : Prop := ∃ x k : Int, H p = some (.lst [.int x, .int k, .ref a]) ∧ 0 ≤ k ∧ SqL K H a (ns.map V.int)
theorem sql_keep {H H' : Hp} {a p : Addr} {x k : Int} {ns : List Int} (hk : Keep p H H') (hp : H p = some (.lst [.int x, .int k, .ref a])) (h : SqL K H a (ns.map V.int)) : SqL K H' a (ns.map V.int) := by
  rcases h with (h | ⟨ob, h⟩) | h
  · refine .inl (.inl (hk _ _ h fun z => ?_))
    rw [z, hp] at h
    have := Option.some.inj h
    injection this with e
    match ns, e with
    | [], e => cases e
    | [_], e => simp at e
    | [_, _], e => simp at e
    | _ :: _ :: _ :: _, e => simp at e
  · refine .inl (.inr ⟨ob, hk _ _ h fun z => ?_⟩)
    rw [z, hp] at h
    cases h
  · exact .inr h
theorem sqt_keep {H H' : Hp} {p r : Addr} {xs ys : List V} (hk : Keep p H H') (hp : H p = some (.lst ys)) (h : SqT K H r xs) : SqT K H' r xs := by
  rcases h with (h | ⟨ob, h⟩) | h
  · exact .inl (.inl (hk _ _ h fun z => by rw [z, hp] at h; cases h))
  · exact .inl (.inr ⟨ob, hk _ _ h fun z => by rw [z, hp] at h; cases h⟩)
  · exact .inr h
theorem StL.same {H H' : Hp} {a p : Addr} {ns : List Int} (s : Same H H') (h : StL K H a p ns) : StL K H' a p ns := by
  obtain ⟨x, k, h1, h2, h3⟩ := h
  exact ⟨x, k, s _ _ h1, h2, s.seq h3⟩
abbrev sCell : Stmt := top 24
theorem scCell : FnScope ["script", "k"] ["script", "k"] (defScope sCell) := ⟨rfl, rfl, rfl, by decide +kernel, rfl, by decide +kernel, by decide +kernel⟩
def spCell (K : PySem.W.Frag) : Sp := fun vs H Q _ => ∃ (a : Addr) (ns : List Int) (k : Int), vs = [.ref a, .int k] ∧ SqL K H a (ns.map V.int) ∧ 0 ≤ k ∧ ∀ c : Int, Q (.int c) H
theorem ok_cell {f : Addr} {fd : FuncData} (F : Fun K "_law_cell" "_law_cell" sCell f fd) (B : Bl mg) : FnOk P w K mg base CX0 1 f fd ["script", "k"] (spCell K) := by
  refine F.ok scCell (fun vs H Q E h => ?_) (fun cdv A outer s H vs Q E hr h => ?_)
  · obtain ⟨a, ns, k, rfl, _⟩ := h
    rfl
  · obtain ⟨a, ns, k, rfl, hS, h0, q⟩ := h
    refine ⟨_, pss_cons (ps_if (pt_cmpR op_lt (pv 1) (pe_callB call_len_seq (by rfl) B.len PySem.boot_len (pa_cons (pv 0) pa_nil)) (nomark _))
        (pss_one (ps_ret (pe_ix ix_list (pv 0) (pv 1) (fun _ _ => rfl))))
        pss_nil)
      (pss_one (ps_ret pe_int)), ?_⟩
    refine ⟨_, rfl, _, rfl, a, _, rfl, .inl hS, _, _, rfl, rfl, _, rfl, ite2 (fun e => ?_) (fun e => q 0)⟩
    have e1 : k < ((ns.map V.int).length : Nat) := of_decide_eq_true e
    obtain ⟨j, rfl⟩ : ∃ j : Nat, k = (j : Int) := ⟨k.toNat, by omega⟩
    have hj : j < ns.length := by
      rw [List.length_map] at e1
      omega
    refine ⟨_, rfl, _, rfl, a, _, _, V.int ns[j], rfl, rfl, hS, atI_nat ?_, q _⟩
    rw [List.getElem?_map, List.getElem?_eq_getElem hj]
    rfl
abbrev sBegin : Stmt := top 25
theorem scBegin : FnScope ["script", "k"] ["script", "k"] (defScope sBegin) := ⟨rfl, rfl, rfl, by decide +kernel, rfl, by decide +kernel, by decide +kernel⟩
def spBegin (K : PySem.W.Frag) : Sp := fun vs H Q _ => ∃ (a : Addr) (ns : List Int), vs = [.ref a, .int 0] ∧ SqL K H a (ns.map V.int) ∧ ∀ H' p, H p = none → Same H H' → StL K H' a p ns → Q (.ref p) H'
theorem ok_begin {f : Addr} {fd : FuncData} (F : Fun K "_law_begin" "_law_begin" sBegin f fd) : FnOk P w K mg base CX0 1 f fd ["script", "k"] (spBegin K) := by
  refine F.ok scBegin (fun vs H Q E h => ?_) (fun cdv A outer s H vs Q E hr h => ?_)
  · obtain ⟨a, ns, rfl, _⟩ := h
    rfl
  · obtain ⟨a, ns, rfl, hS, q⟩ := h
    refine ⟨_, pss_one (ps_ret (pe_lst (pa_cons pe_int (pa_cons (pv 1) (pa_cons (pv 0) pa_nil))))), ?_⟩
    refine ⟨_, rfl, _, rfl, (by show 3 ≤ sizeLine; decide), fun p hp => q _ p hp (same_upd hp) ⟨0, 0, upd_same, by decide, (same_upd hp).seq hS⟩⟩
abbrev sDraw : Stmt := top 26
theorem scDraw : FnScope ["state", "many", "k", "cell", "prime", "mixed", "digit"] ["state", "many"] (defScope sDraw) := ⟨rfl, rfl, rfl, by decide +kernel, rfl, by decide +kernel, by decide +kernel⟩
def spDraw (K : PySem.W.Frag) : Sp := fun vs H Q _ => ∃ (a p : Addr) (ns : List Int) (many : Int), vs = [.ref p, .int many] ∧ StL K H a p ns ∧ 0 < many ∧ many < 1073741824 ∧ ∀ H' (r : Int), Keep p H H' → StL K H' a p ns → 0 ≤ r → r < many → Q (.int r) H'
theorem ok_draw {f fC : Addr} {fd gC : FuncData} (F : Fun K "_law_draw" "_law_draw" sDraw f fd) (B : Bl mg) (FC : Fun K "_law_cell" "_law_cell" sCell fC gC) (bC : Binds K gC ["script", "k"] []) (mC : mg "_law_cell" = some (.ref fC)) : FnOk P w K mg base CX0 2 f fd ["state", "many"] (spDraw K) := by
  have GC : FnOk P w K mg base CX0 1 fC gC ["script", "k"] (spCell K) := ok_cell FC B
  refine F.ok scDraw (fun vs H Q E h => ?_) (fun cdv A outer s H vs Q E hr h => ?_)
  · obtain ⟨a, p, ns, many, rfl, _⟩ := h
    rfl
  · obtain ⟨a, p, ns, many, rfl, ⟨x, k, hp, hk, hS⟩, h0, h1, q⟩ := h
    refine ⟨_, pss_cut (ps_if (pt_cmpR op_lt (pe_ix ix_list (pv 0) pe_int (fun _ _ => rfl)) (pv 1) (nomark _))
        (pss_cons (ps_set (i := 2) scDraw.nd rfl (.inl rfl) (pe_ix ix_list (pv 0) pe_int (fun _ _ => rfl)))
        (pss_cons (ps_set (i := 3) scDraw.nd rfl (.inl rfl) (pe_call GC hr (by rfl) mC FC.kp bC .nil pass0 (pa_cons (pe_ix ix_list (pv 0) pe_int (fun _ _ => rfl)) (pa_cons (pv 2) pa_nil))))
        (pss_cons (ps_set (i := 4) scDraw.nd rfl (.inl rfl) pe_int)
        (pss_cons (ps_asg (pe_op op_add (pv 2) pe_int) (pg_sub (pv 0) pe_int set_list))
        (pss_cons (ps_asg (pe_callB call_abs (by rfl) B.abs (by decide +kernel) (pa_cons (pv 3) pa_nil)) (pg_sub (pv 0) pe_int set_list))
        (pss_one (ps_if (pt_chain op_lt op_lt (pe_un un_neg pe_int) (pv 3) pe_int)
          (pss_cons (ps_set (i := 5) scDraw.nd rfl (.inl rfl) (pe_op op_mod (pe_callTy call_int1 (by rfl) B.int (by decide +kernel) (pa_cons (pe_op op_add (pe_op op_mul (pv 3) pe_int) (pe_op op_mul (pe_op op_add (pv 2) pe_int) pe_int)) pa_nil)) (pv 4)))
          (pss_one (ps_asg (pe_op op_add (pe_op op_mod (pe_callTy call_int1 (by rfl) B.int (by decide +kernel) (pa_cons (pe_op op_add (pe_op op_add (pe_op op_mulW (pv 5) (pv 5)) (pe_op op_mul pe_int (pv 5))) (pv 2)) pa_nil)) (pv 4)) (pv 4)) (pg_sub (pv 0) pe_int set_list))))
          pss_nil)))))))
        pss_nil)
      (pss_cons (ps_set (i := 6) scDraw.nd rfl (.inl rfl) (pe_op op_mod (pe_callTy call_int1 (by rfl) B.int (by decide +kernel) (pa_cons (pe_ix ix_list (pv 0) pe_int (fun _ _ => rfl)) pa_nil)) (pv 1)))
      (pss_cons (ps_asg (pe_op op_fdiv (pe_ix ix_list (pv 0) pe_int (fun _ _ => rfl)) (pv 1)) (pg_sub (pv 0) pe_int set_list))
      (pss_one (ps_ret (pv 6))))), ?_⟩
    let M : List (Option V) → Hp → Prop := fun σ' H' => ∃ (y2 y3 y4 y5 : Option V) (x k : Int), σ' = [some (.ref p), some (.int many), y2, y3, y4, y5, none] ∧ Keep p H H' ∧ H' p = some (.lst [.int x, .int k, .ref a]) ∧ 0 ≤ k
    refine ⟨M, ⟨_, rfl, p, _, _, _, rfl, rfl, SqL.of hp, rfl, _, rfl, _, _, rfl, rfl, _, rfl, ite2 (fun e => ?_) (fun e => ⟨none, none, none, none, x, k, rfl, fun _ _ e _ => e, hp, hk⟩)⟩, ?_⟩
    · refine ⟨_, rfl, p, _, _, _, rfl, rfl, SqL.of hp, rfl, ?_⟩
      refine ⟨_, rfl, p, _, _, _, rfl, rfl, SqL.of hp, rfl, _, rfl, a, ns, k, rfl, hS, hk, fun cell => ?_⟩
      refine ⟨_, rfl, _, _, rfl, rfl, _, rfl, p, _, _, _, rfl, rfl, hp, rfl, ?_⟩
      refine ⟨_, rfl, _, rfl, _, rfl, p, _, _, _, rfl, rfl, upd_same, rfl, ?_⟩
      have fin : ∀ (z z' : Int) (Hx : Hp), Keep p H Hx → Keep p H (upd Hx p (.lst [.int z, .int z', .ref a])) := fun z z' Hx kx b o e n => by
        rw [upd_ne n]
        exact kx b o e n
      have k0 : Keep p H H := fun _ _ e _ => e
      have kA := fin x (k + 1) H k0
      have kB := fin (if cell < 0 then -cell else cell) (k + 1) _ kA
      have eB : upd (upd H p (.lst [.int x, .int (k + 1), .ref a])) p (.lst [.int (if cell < 0 then -cell else cell), .int (k + 1), .ref a]) p = some (.lst [.int (if cell < 0 then -cell else cell), .int (k + 1), .ref a]) := upd_same
      have done : ∀ (y5 : Option V) (z : Int) (Hx : Hp), Keep p H Hx → Hx p = some (.lst [.int z, .int (k + 1), .ref a]) → M [some (.ref p), some (.int many), some (.int k), some (.int cell), some (.int 618970019642690137449562111), y5, none] Hx := fun y5 z Hx k1 e1 => ⟨_, _, _, _, z, k + 1, rfl, k1, e1, by omega⟩
      refine ⟨_, rfl, _, rfl, _, _, rfl, rfl, _, rfl, ite2 (fun e1 => ⟨_, _, rfl, rfl, _, rfl, ite2 (fun e2 => ?_) (fun _ => done none _ _ kB eB)⟩) (fun _ => ⟨_, rfl, iteF (done none _ _ kB eB)⟩)⟩
      refine ⟨_, rfl, _, _, rfl, rfl, .inr ⟨by decide, by decide⟩, _, rfl, _, _, rfl, rfl, _, _, rfl, rfl, .inr ⟨by decide, by decide⟩, _, _, rfl, rfl, .inl ⟨_, rfl, _, rfl, _, _, rfl, rfl, (by show (0 : Int) < 618970019642690137449562111; decide), ?_⟩⟩
      dsimp only
      have m0 : 0 ≤ (cell * 2654435761 + (k + 1) * 6700417) % 618970019642690137449562111 := Int.emod_nonneg _ (by decide)
      have m1 : (cell * 2654435761 + (k + 1) * 6700417) % 618970019642690137449562111 < 618970019642690137449562111 := Int.emod_lt_of_pos _ (by decide)
      generalize (cell * 2654435761 + (k + 1) * 6700417) % 618970019642690137449562111 = mx at m0 m1 ⊢
      have mb : mx.natAbs < 2 ^ 90 := by
        have : (2 : Nat) ^ 90 = 1237940039285380274899124224 := by decide
        omega
      refine ⟨_, rfl, _, rfl, _, _, rfl, rfl, wide_mul mb mb (by decide) (by decide) (by decide), _, rfl, _, _, rfl, rfl, .inl ⟨by decide, by decide⟩, _, _, rfl, rfl, _, rfl, _, _, rfl, rfl, .inl ⟨_, rfl, _, rfl, _, _, rfl, rfl, (by show (0 : Int) < 618970019642690137449562111; decide), _, rfl, _, _, rfl, rfl, _, rfl, p, _, _, _, rfl, rfl, eB, rfl, ?_⟩⟩
      exact done _ _ _ (fin _ _ _ kB) upd_same
    rintro σ' H' ⟨y2, y3, y4, y5, x', k', rfl, k1, hp', hk'⟩
    refine ⟨_, rfl, p, _, _, _, rfl, rfl, SqL.of hp', rfl, .inl ⟨_, rfl, _, rfl, _, _, rfl, rfl, h0, ?_⟩⟩
    refine ⟨_, rfl, p, _, _, _, rfl, rfl, SqL.of hp', rfl, _, rfl, _, _, rfl, rfl, ⟨h0, h1⟩, _, rfl, p, _, _, _, rfl, rfl, hp', rfl, ?_⟩
    have k2 : Keep p H (upd H' p (.lst [.int (x' / many), .int k', .ref a])) := fun b o e n => by
      rw [upd_ne n]
      exact k1 b o e n
    exact ⟨_, rfl, q _ _ k2 ⟨_, k', upd_same, hk', sql_keep k2 hp hS⟩ (Int.emod_nonneg _ (by omega)) (Int.emod_lt_of_pos _ h0)⟩
abbrev sPick : Stmt := top 27
theorem scPick : FnScope ["state", "row"] ["state", "row"] (defScope sPick) := ⟨rfl, rfl, rfl, by decide +kernel, rfl, by decide +kernel, by decide +kernel⟩
def spPick (K : PySem.W.Frag) : Sp := fun vs H Q _ => ∃ (a p r : Addr) (ns : List Int) (xs : List V), vs = [.ref p, .ref r] ∧ StL K H a p ns ∧ SqT K H r xs ∧ 0 < xs.length ∧ xs.length ≤ 100 ∧ ∀ H' v, v ∈ xs → Keep p H H' → StL K H' a p ns → Q v H'
theorem ok_pick {f fC fD : Addr} {fd gC gD : FuncData} (F : Fun K "_law_pick" "_law_pick" sPick f fd) (B : Bl mg) (FC : Fun K "_law_cell" "_law_cell" sCell fC gC) (bC : Binds K gC ["script", "k"] []) (mC : mg "_law_cell" = some (.ref fC))
    (FD : Fun K "_law_draw" "_law_draw" sDraw fD gD) (bD : Binds K gD ["state", "many"] []) (mD : mg "_law_draw" = some (.ref fD)) : FnOk P w K mg base CX0 3 f fd ["state", "row"] (spPick K) := by
  have GD : FnOk P w K mg base CX0 2 fD gD ["state", "many"] (spDraw K) := ok_draw FD B FC bC mC
  refine F.ok scPick (fun vs H Q E h => ?_) (fun cdv A outer s H vs Q E hr h => ?_)
  · obtain ⟨a, p, r, ns, xs, rfl, _⟩ := h
    rfl
  · obtain ⟨a, p, r, ns, xs, rfl, hst, ht, h0, h1, q⟩ := h
    refine ⟨_, pss_one (ps_ret (pe_ix ix_tup (pv 1) (pe_call GD hr (by rfl) mD FD.kp bD .nil pass0 (pa_cons (pv 0) (pa_cons (pe_callB call_len_seq (by rfl) B.len PySem.boot_len (pa_cons (pv 1) pa_nil)) pa_nil))) (fun _ _ => rfl))), ?_⟩
    refine ⟨_, rfl, _, rfl, _, rfl, r, _, rfl, .inr ht, a, p, ns, _, rfl, hst, by omega, by omega, fun H' i k1 st i0 i1 => ?_⟩
    obtain ⟨j, rfl⟩ : ∃ j : Nat, i = (j : Int) := ⟨i.toNat, by omega⟩
    have hj : j < xs.length := by omega
    obtain ⟨x, k, hp, _⟩ := hst
    exact ⟨r, xs, _, xs[j], rfl, rfl, sqt_keep k1 hp ht, atI_nat (List.getElem?_eq_getElem hj), q H' _ (List.getElem_mem hj) k1 st⟩
end
end My
namespace My
open PySem L2 SX
open C8 (pss_cut tCut cutS_slice pe_gc)
/-- the classes' inits, and the store's methods, where they stand -/
structure Ini (K : PySem.W.Frag) (cR cB cP cT cI cK cC cD cV cU cS fR fB fP fT fI fK fC fD fV fU fS fM fA : Addr) (gR gB gP gT gI gK gC gD gV gU gS gM gA : FuncData) : Prop where
  mR : Mk K cR fR
  FR : Fun K "__init__" "Ref.__init__" sIR fR gR
  bR : Binds K gR ["self", "number"] []
  mB : Mk K cB fB
  FB : Fun K "__init__" "Builtin.__init__" sIB fB gB
  bB : Binds K gB ["self", "name"] []
  mP : Mk K cP fP
  FP : Fun K "__init__" "Parts.__init__" sIP fP gP
  bP : Binds K gP ["self", "held"] []
  mT : Mk K cT fT
  FT : Fun K "__init__" "Table.__init__" sIT fT gT
  bT : Binds K gT ["self"] []
  mI : Mk K cI fI
  FI : Fun K "__init__" "Instance.__init__" sII fI gI
  bI : Binds K gI ["self", "owner"] []
  mK : Mk K cK fK
  FK : Fun K "__init__" "Kin.__init__" sIK fK gK
  bK : Binds K gK ["self", "name", "parent"] []
  mC : Mk K cC fC
  FC : Fun K "__init__" "Closure.__init__" sIC fC gC
  bC : Binds K gC ["self", "number", "wanted", "scope"] []
  mD : Mk K cD fD
  FD : Fun K "__init__" "Bound.__init__" sID fD gD
  bD : Binds K gD ["self", "owner", "function"] []
  mV : Mk K cV fV
  FV : Fun K "__init__" "Variable.__init__" sIV fV gV
  bV : Binds K gV ["self", "value"] []
  mU : Mk K cU fU
  FU : Fun K "__init__" "Cursor.__init__" sIU fU gU
  bU : Binds K gU ["self", "rest"] []
  mS : Mk K cS fS
  FS : Fun K "__init__" "Store.__init__" sIS fS gS
  bS : Binds K gS ["self", "lines"] []
  mM : Meth K cS "make" fM
  FM : Fun K "make" "Store.make" sMake fM gM
  bM : Binds K gM ["self", "thing"] []
  mA : Meth K cS "at" fA
  FA : Fun K "at" "Store.at" sAt fA gA
  bA : Binds K gA ["self", "ref"] []
section
variable {P : Program} {w : World} {K : PySem.W.Frag} {mg : Str → Option Value} {base : Heap} {cR cB cP cT cI cK cC cD cV cU cS : Addr} {fR fB fP fT fI fK fC fD fV fU fS fM fA : Addr} {gR gB gP gT gI gK gC gD gV gU gS gM gA : FuncData}
/-! ### _law_store -/
abbrev sLawStore : Stmt := top 28
theorem scLawStore : FnScope ["store"] [] (defScope sLawStore) := ⟨rfl, rfl, rfl, by decide +kernel, rfl, by decide +kernel, by decide +kernel⟩
def spLawStore (cP cT cI cK cC cD cV cU cS : Addr) : Sp := fun vs H Q _ => vs = [] ∧ ∀ H' s t, Same H H' → StoreAt cS H' s t [cK, cP, cT, cI, cC, cD, cV, cU] → Q (.ref s) H'
theorem ok_law_store {f : Addr} {fd : FuncData} (F : Fun K "_law_store" "_law_store" sLawStore f fd) (T : Kt K mg cR cB cP cT cI cK cC cD cV cU cS) (B : Bl mg) (J : Ini K cR cB cP cT cI cK cC cD cV cU cS fR fB fP fT fI fK fC fD fV fU fS fM fA gR gB gP gT gI gK gC gD gV gU gS gM gA) : FnOk P w K mg base CX0 5 f fd [] (spLawStore cP cT cI cK cC cD cV cU cS) := by
  have GS : FnOk P w K mg base CX0 3 fS gS ["self", "lines"] (spIS K cS cK) := ok_IS J.FS T B J.mK J.FK J.bK
  have GM : FnOk P w K mg base CX0 3 fM gM ["self", "thing"] (spMake cS) := ok_make J.FM T B J.mR J.FR J.bR
  have GR : FnOk P w K mg base CX0 1 fR gR ["self", "number"] (spI1 cR "number") := ok_IR J.FR T
  have GP : FnOk P w K mg base CX0 1 fP gP ["self", "held"] (spIL K cP) := ok_IP J.FP T B
  have GT : FnOk P w K mg base CX0 1 fT gT ["self"] (spIT cT 0) := ok_IT J.FT T
  have GI : FnOk P w K mg base CX0 1 fI gI ["self", "owner"] (spIT cI 1) := ok_II J.FI T
  have GC : FnOk P w K mg base CX0 1 fC gC ["self", "number", "wanted", "scope"] (spIT cC 3) := ok_IC J.FC T
  have GD : FnOk P w K mg base CX0 1 fD gD ["self", "owner", "function"] (spIT cD 2) := ok_ID J.FD T
  have GV : FnOk P w K mg base CX0 1 fV gV ["self", "value"] (spIT cV 1) := ok_IV J.FV T
  have GU : FnOk P w K mg base CX0 1 fU gU ["self", "rest"] (spIL K cU) := ok_IU J.FU T B
  refine F.ok scLawStore (fun vs H Q E h => ?_) (fun cdv A outer s H vs Q E hr h => ?_)
  · obtain ⟨rfl, _⟩ := h
    rfl
  · obtain ⟨rfl, q⟩ := h
    have h2 : Room 2 _ := hr.mono (by decide)
    have h3 : Room 3 _ := hr.mono (by decide)
    refine ⟨_, pss_cons (ps_set (i := 0) scLawStore.nd rfl (.inl rfl) (pe_make J.mS GS hr (by rfl) T.gS J.bS .nil pass0 (pa_cons (pe_lst pa_nil) pa_nil)))
      (pss_cons (ps_expr (pe_meth (pv 0) T.clS J.mM GM h3 J.bM .nil pass0 (pa_cons (pe_make J.mP GP h2 (by rfl) T.gP J.bP .nil pass0 (pa_cons (pe_lst pa_nil) pa_nil)) pa_nil)))
      (pss_cons (ps_expr (pe_meth (pv 0) T.clS J.mM GM h3 J.bM .nil pass0 (pa_cons (pe_make0 J.mT GT h2 (by rfl) T.gT J.bT .nil pass0) pa_nil)))
      (pss_cons (ps_expr (pe_meth (pv 0) T.clS J.mM GM h3 J.bM .nil pass0 (pa_cons (pe_make J.mI GI h2 (by rfl) T.gI J.bI .nil pass0 (pa_cons (pe_make J.mR GR h2 (by rfl) T.gR J.bR .nil pass0 (pa_cons (pe_int) pa_nil)) pa_nil)) pa_nil)))
      (pss_cons (ps_expr (pe_meth (pv 0) T.clS J.mM GM h3 J.bM .nil pass0 (pa_cons (pe_make J.mC GC h2 (by rfl) T.gC J.bC .nil pass0 (pa_cons (pe_int) (pa_cons (pe_int) (pa_cons (pe_tup pa_nil) pa_nil)))) pa_nil)))
      (pss_cons (ps_expr (pe_meth (pv 0) T.clS J.mM GM h3 J.bM .nil pass0 (pa_cons (pe_make J.mD GD h2 (by rfl) T.gD J.bD .nil pass0 (pa_cons (pe_make J.mR GR h2 (by rfl) T.gR J.bR .nil pass0 (pa_cons (pe_int) pa_nil)) (pa_cons (pe_make J.mR GR h2 (by rfl) T.gR J.bR .nil pass0 (pa_cons (pe_int) pa_nil)) pa_nil))) pa_nil)))
      (pss_cons (ps_expr (pe_meth (pv 0) T.clS J.mM GM h3 J.bM .nil pass0 (pa_cons (pe_make J.mV GV h2 (by rfl) T.gV J.bV .nil pass0 (pa_cons (pe_non) pa_nil)) pa_nil)))
      (pss_cons (ps_expr (pe_meth (pv 0) T.clS J.mM GM h3 J.bM .nil pass0 (pa_cons (pe_make J.mU GU h2 (by rfl) T.gU J.bU .nil pass0 (pa_cons (pe_lst pa_nil) pa_nil)) pa_nil)))
      (pss_one (ps_ret (pv 0)))))))))), ?_⟩
    refine ⟨Nat.zero_le _, fun l0 nl0 => ?_⟩
    intro x dx nx ndx nxd
    refine ⟨x, dx, l0, [], rfl, upd_same, .inl (.inl (by rw [upd_ne (ne_of_none upd_same nx), upd_ne (ne_of_none upd_same ndx)]; exact upd_same)), fun H1 t k1 nt S1 => ⟨rfl, ?_⟩⟩
    have s1 : Same H H1 := (same_upd nl0).trans (Same.made nx ndx k1)
    have nt0 : H t = none := by
      cases e : H t with
      | none => rfl
      | some o =>
        have e1 := same_upd (o := .lst []) nl0 _ _ e
        rw [upd_ne (ne_of_none e1 nx), upd_ne (ne_of_none e1 ndx), e1] at nt
        cases nt
    have w0 : ∀ {H2 H3 : Hp}, Same H H2 → Keep t H2 H3 → Same H H3 := fun a b o ob e => b _ _ (a _ _ e) (fun z => by rw [z, nt0] at e; cases e)
    -- P
    obtain ⟨d1, o1, l1, ts1, e1, _⟩ := id S1
    refine ⟨_, rfl, x, d1, _, rfl, e1, st_make _ _ _, Nat.zero_le _, fun b1 nb1 y1 dy1 ny1 ndy1 nyd1 => ⟨y1, dy1, b1, [], rfl, upd_same, .inl (.inl (by rw [upd_ne (ne_of_none upd_same ny1), upd_ne (ne_of_none upd_same ndy1)]; exact upd_same)), fun A1 fs1 ka1 ya1 => ⟨rfl, ?_⟩⟩⟩
    have sa1 : Same H1 A1 := (same_upd nb1).trans (Same.made ny1 ndy1 ka1)
    refine ⟨x, t, _, y1, cP, dy1, fs1, rfl, S1.same sa1, (by show 1 ≤ 100; decide), ya1, fun H2 z1 k2 S2 => ?_⟩
    have s2 : Same H H2 := w0 (s1.trans sa1) k2
    -- T
    obtain ⟨d2, o2, l2, ts2, e2, _⟩ := id S2
    refine ⟨_, rfl, x, d2, _, rfl, e2, st_make _ _ _, fun y2 dy2 ny2 ndy2 nyd2 => ⟨y2, dy2, _, rfl, rfl, upd_same, fun A2 fs2 ka2 ya2 => ⟨rfl, ?_⟩⟩⟩
    have sa2 : Same H2 A2 := Same.made ny2 ndy2 ka2
    refine ⟨x, t, _, y2, cT, dy2, fs2, rfl, S2.same sa2, (by show 2 ≤ 100; decide), ya2, fun H3 z2 k3 S3 => ?_⟩
    have s3 : Same H H3 := w0 (s2.trans sa2) k3
    -- I
    obtain ⟨d3, o3, l3, ts3, e3, _⟩ := id S3
    refine ⟨_, rfl, x, d3, _, rfl, e3, st_make _ _ _, fun r3 dr3 nr3 ndr3 nrd3 => ⟨r3, dr3, _, rfl, upd_same, rfl, ?_⟩⟩
    have sr3 : Same H3 _ := Same.made (H1 := upd (upd (upd H3 dr3 (.own r3)) r3 (.ins cR dr3 [])) r3 (.ins cR dr3 [("number", .int 0)])) nr3 ndr3 keep_upd
    refine fun y3 dy3 ny3 ndy3 nyd3 => ⟨y3, dy3, _, rfl, rfl, upd_same, fun A3 fs3 ka3 ya3 => ⟨rfl, ?_⟩⟩
    have sa3 : Same H3 A3 := sr3.trans (Same.made ny3 ndy3 ka3)
    refine ⟨x, t, _, y3, cI, dy3, fs3, rfl, S3.same sa3, (by show 3 ≤ 100; decide), ya3, fun H4 z3 k4 S4 => ?_⟩
    have s4 : Same H H4 := w0 (s3.trans sa3) k4
    -- C
    obtain ⟨d4, o4, l4, ts4, e4, _⟩ := id S4
    refine ⟨_, rfl, x, d4, _, rfl, e4, st_make _ _ _, Nat.zero_le _, fun b4 nb4 y4 dy4 ny4 ndy4 nyd4 => ⟨y4, dy4, _, rfl, rfl, upd_same, fun A4 fs4 ka4 ya4 => ⟨rfl, ?_⟩⟩⟩
    have sa4 : Same H4 A4 := (same_upd nb4).trans (Same.made ny4 ndy4 ka4)
    refine ⟨x, t, _, y4, cC, dy4, fs4, rfl, S4.same sa4, (by show 4 ≤ 100; decide), ya4, fun H5 z4 k5 S5 => ?_⟩
    have s5 : Same H H5 := w0 (s4.trans sa4) k5
    -- D
    obtain ⟨d5, o5, l5, ts5, e5, _⟩ := id S5
    refine ⟨_, rfl, x, d5, _, rfl, e5, st_make _ _ _, fun r5 dr5 nr5 ndr5 nrd5 => ⟨r5, dr5, _, rfl, upd_same, rfl, ?_⟩⟩
    have sr5 : Same H5 _ := Same.made (H1 := upd (upd (upd H5 dr5 (.own r5)) r5 (.ins cR dr5 [])) r5 (.ins cR dr5 [("number", .int 3)])) nr5 ndr5 keep_upd
    refine fun q5 dq5 nq5 ndq5 nqd5 => ⟨q5, dq5, _, rfl, upd_same, rfl, ?_⟩
    have sq5 := sr5.trans (Same.made (H1 := upd (upd (upd _ dq5 (.own q5)) q5 (.ins cR dq5 [])) q5 (.ins cR dq5 [("number", .int 4)])) nq5 ndq5 keep_upd)
    refine fun y5 dy5 ny5 ndy5 nyd5 => ⟨y5, dy5, _, rfl, rfl, upd_same, fun A5 fs5 ka5 ya5 => ⟨rfl, ?_⟩⟩
    have sa5 : Same H5 A5 := sq5.trans (Same.made ny5 ndy5 ka5)
    refine ⟨x, t, _, y5, cD, dy5, fs5, rfl, S5.same sa5, (by show 5 ≤ 100; decide), ya5, fun H6 z5 k6 S6 => ?_⟩
    have s6 : Same H H6 := w0 (s5.trans sa5) k6
    -- V
    obtain ⟨d6, o6, l6, ts6, e6, _⟩ := id S6
    refine ⟨_, rfl, x, d6, _, rfl, e6, st_make _ _ _, fun y6 dy6 ny6 ndy6 nyd6 => ⟨y6, dy6, _, rfl, rfl, upd_same, fun A6 fs6 ka6 ya6 => ⟨rfl, ?_⟩⟩⟩
    have sa6 : Same H6 A6 := Same.made ny6 ndy6 ka6
    refine ⟨x, t, _, y6, cV, dy6, fs6, rfl, S6.same sa6, (by show 6 ≤ 100; decide), ya6, fun H7 z6 k7 S7 => ?_⟩
    have s7 : Same H H7 := w0 (s6.trans sa6) k7
    -- U
    obtain ⟨d7, o7, l7, ts7, e7, _⟩ := id S7
    refine ⟨_, rfl, x, d7, _, rfl, e7, st_make _ _ _, Nat.zero_le _, fun b7 nb7 y7 dy7 ny7 ndy7 nyd7 => ⟨y7, dy7, b7, [], rfl, upd_same, .inl (.inl (by rw [upd_ne (ne_of_none upd_same ny7), upd_ne (ne_of_none upd_same ndy7)]; exact upd_same)), fun A7 fs7 ka7 ya7 => ⟨rfl, ?_⟩⟩⟩
    have sa7 : Same H7 A7 := (same_upd nb7).trans (Same.made ny7 ndy7 ka7)
    refine ⟨x, t, _, y7, cU, dy7, fs7, rfl, S7.same sa7, (by show 7 ≤ 100; decide), ya7, fun H8 z7 k8 S8 => ?_⟩
    have s8 : Same H H8 := w0 (s7.trans sa7) k8
    exact ⟨_, rfl, q H8 x t s8 S8⟩
end
end My
namespace My
open PySem L2 SX
open C8 (pss_cut tCut cutS_slice pe_gc)
def RowOk (cR cB : Addr) (H : Hp) (v : V) (d : Dv) : Prop := ∃ q u, v = .ref q ∧ H q = some (.tup [.str (kindS d), tagV d, u]) ∧ Has cR cB H u d ∧ okD d
theorem RowOk.same {cR cB : Addr} {H H' : Hp} (s : Same H H') {v : V} {d : Dv} (h : RowOk cR cB H v d) : RowOk cR cB H' v d := by
  obtain ⟨q, u, e, h1, h2, h3⟩ := h
  exact ⟨q, u, e, s _ _ h1, h2.same s, h3⟩
theorem RowOk.keep {cR cB : Addr} {H H' : Hp} {p : Addr} {xs : List V} (s : Keep p H H') (hp : H p = some (.lst xs)) {v : V} {d : Dv} (h : RowOk cR cB H v d) : RowOk cR cB H' v d := by
  obtain ⟨q, u, e, h1, h2, h3⟩ := h
  exact ⟨q, u, e, s _ _ h1 (fun z => by rw [z, hp] at h1; cases h1), h2.keep s hp, h3⟩
def bltV : List V := [.str "print", .str "read", .str "str", .str "int", .str "len", .str "range", .str "kind", .str "abs", .str "min", .str "max", .str "pow", .str "gcd", .str "sqrt", .str "base", .str "parse", .str "char", .str "assert", .str "copy", .str "equals"]
def bltD : List PyData := [.str "print", .str "read", .str "str", .str "int", .str "len", .str "range", .str "kind", .str "abs", .str "min", .str "max", .str "pow", .str "gcd", .str "sqrt", .str "base", .str "parse", .str "char", .str "assert", .str "copy", .str "equals"]
theorem mem_str {xs : List V} (h : xs.all (fun v => match v with | .str _ => true | _ => false) = true) {v : V} (hv : v ∈ xs) : ∃ z, v = .str z := by
  have := List.all_eq_true.mp h v hv
  cases v with
  | str z => exact ⟨z, rfl⟩
  | _ => cases this
def reps : List Str := ["", "0", "1", "a", "null", "print"]
theorem rep_ok {z : Str} (h : z ∈ reps) {r : Int} (h0 : 0 ≤ r) (h3 : r < 3) : MulOk z (1 + r) := by
  have hr : r = 0 ∨ r = 1 ∨ r = 2 := by omega
  have hz : z = "" ∨ z = "0" ∨ z = "1" ∨ z = "a" ∨ z = "null" ∨ z = "print" := by
    simpa [reps] using h
  rcases hz with rfl | rfl | rfl | rfl | rfl | rfl <;> rcases hr with rfl | rfl | rfl <;> unfold MulOk <;> decide +kernel
/-- where BUILTINS stands -/
structure BT (K : PySem.W.Frag) (mg : Str → Option Value) (bA : Addr) : Prop where
  g : mg "BUILTINS" = some (.ref bA)
  t : ∀ H, SqT K H bA bltV
/-- the law's defs, where they stand -/
structure LawD (K : PySem.W.Frag) (mg : Str → Option Value) (lC lB lD lP lS lV lK lT : Addr) (hC hB hD hP hS hV hK hT : FuncData) : Prop where
  fC : Fun K "_law_cell" "_law_cell" sCell lC hC
  bC : Binds K hC ["script", "k"] []
  gC : mg "_law_cell" = some (.ref lC)
  fB : Fun K "_law_begin" "_law_begin" sBegin lB hB
  bB : Binds K hB ["script", "k"] []
  gB : mg "_law_begin" = some (.ref lB)
  fD : Fun K "_law_draw" "_law_draw" sDraw lD hD
  bD : Binds K hD ["state", "many"] []
  gD : mg "_law_draw" = some (.ref lD)
  fP : Fun K "_law_pick" "_law_pick" sPick lP hP
  bP : Binds K hP ["state", "row"] []
  gP : mg "_law_pick" = some (.ref lP)
section
variable {P : Program} {w : World} {K : PySem.W.Frag} {mg : Str → Option Value} {base : Heap} {cR cB cP cT cI cK cC cD cV cU cS : Addr} {fR fB fP fT fI fK fC fD fV fU fS fM fA : Addr} {gR gB gP gT gI gK gC gD gV gU gS gM gA : FuncData}
  {lC lB lD lP lS lV lK lT bA : Addr} {hC hB hD hP hS hV hK hT : FuncData}
/-! ### _law_value -/
abbrev sLawValue : Stmt := top 29
theorem scLawValue : FnScope ["state", "kind", "flag", "number", "text", "name"] ["state"] (defScope sLawValue) := ⟨rfl, rfl, rfl, by decide +kernel, rfl, by decide +kernel, by decide +kernel⟩
def spLawValue (K : PySem.W.Frag) (cR cB : Addr) : Sp := fun vs H Q _ => ∃ (a p : Addr) (ns : List Int), vs = [.ref p] ∧ StL K H a p ns ∧ ∀ H' v d, Keep p H H' → StL K H' a p ns → RowOk cR cB H' v d → Q v H'
theorem ok_law_value {f : Addr} {fd : FuncData} (F : Fun K "_law_value" "_law_value" sLawValue f fd) (T : Kt K mg cR cB cP cT cI cK cC cD cV cU cS) (B : Bl mg) (J : Ini K cR cB cP cT cI cK cC cD cV cU cS fR fB fP fT fI fK fC fD fV fU fS fM fA gR gB gP gT gI gK gC gD gV gU gS gM gA)
    (L : LawD K mg lC lB lD lP lS lV lK lT hC hB hD hP hS hV hK hT) (U : BT K mg bA) : FnOk P w K mg base CX0 4 f fd ["state"] (spLawValue K cR cB) := by
  have GD : FnOk P w K mg base CX0 2 lD hD ["state", "many"] (spDraw K) := ok_draw L.fD B L.fC L.bC L.gC
  have GP : FnOk P w K mg base CX0 3 lP hP ["state", "row"] (spPick K) := ok_pick L.fP B L.fC L.bC L.gC L.fD L.bD L.gD
  have GR : FnOk P w K mg base CX0 1 fR gR ["self", "number"] (spI1 cR "number") := ok_IR J.FR T
  have GB : FnOk P w K mg base CX0 1 fB gB ["self", "name"] (spI1 cB "name") := ok_IB J.FB T
  refine F.ok scLawValue (fun vs H Q E h => ?_) (fun cdv A outer s H vs Q E hr h => ?_)
  · obtain ⟨a, p, ns, rfl, _⟩ := h
    rfl
  · obtain ⟨a, p, ns, rfl, st, q⟩ := h
    have h2 : Room 2 _ := hr.mono (by decide)
    refine ⟨_, pss_cons (ps_set (i := 1) scLawValue.nd rfl (.inl rfl) (pe_call GD h2 (by rfl) L.gD L.fD.kp L.bD .nil pass0 (pa_cons (pv 0) (pa_cons pe_int pa_nil))))
      (pss_cons (ps_if (pt_cmpR op_eq (pv 1) pe_int (nomark _))
        (pss_one (ps_ret (pe_tup (pa_cons pe_str (pa_cons pe_non (pa_cons pe_non pa_nil))))))
        pss_nil)
      (pss_cons (ps_if (pt_cmpR op_eq (pv 1) pe_int (nomark _))
        (pss_cons (ps_set (i := 2) scLawValue.nd rfl (.inl rfl) (pe_call GD h2 (by rfl) L.gD L.fD.kp L.bD .nil pass0 (pa_cons (pv 0) (pa_cons pe_int pa_nil))))
        (pss_one (ps_ret (pe_tup (pa_cons pe_str (pa_cons (pv 2) (pa_cons (pe_cmpR op_eq (pv 2) pe_int (nomark _)) pa_nil)))))))
        pss_nil)
      (pss_cons (ps_if (pt_cmpR op_eq (pv 1) pe_int (nomark _))
        (pss_cons (ps_set (i := 3) scLawValue.nd rfl (.inl rfl) (pe_call GP hr (by rfl) L.gP L.fP.kp L.bP .nil pass0 (pa_cons (pv 0) (pa_cons (pe_tup (pa_cons pe_int (pa_cons pe_int (pa_cons (pe_un un_neg pe_int) (pa_cons pe_int (pa_cons (pe_call GD h2 (by rfl) L.gD L.fD.kp L.bD .nil pass0 (pa_cons (pv 0) (pa_cons pe_int pa_nil))) pa_nil)))))) pa_nil))))
        (pss_one (ps_ret (pe_tup (pa_cons pe_str (pa_cons (pv 3) (pa_cons (pv 3) pa_nil)))))))
        pss_nil)
      (pss_cons (ps_if (pt_cmpR op_eq (pv 1) pe_int (nomark _))
        (pss_cons (ps_set (i := 4) scLawValue.nd rfl (.inl rfl) (pe_op op_mul_str (pe_call GP hr (by rfl) L.gP L.fP.kp L.bP .nil pass0 (pa_cons (pv 0) (pa_cons (pe_tup (pa_cons pe_str (pa_cons pe_str (pa_cons pe_str (pa_cons pe_str (pa_cons pe_str (pa_cons pe_str pa_nil))))))) pa_nil))) (pe_op op_add pe_int (pe_call GD h2 (by rfl) L.gD L.fD.kp L.bD .nil pass0 (pa_cons (pv 0) (pa_cons pe_int pa_nil))))))
        (pss_one (ps_ret (pe_tup (pa_cons pe_str (pa_cons (pv 4) (pa_cons (pv 4) pa_nil)))))))
        pss_nil)
      (pss_cons (ps_if (pt_cmpR op_eq (pv 1) pe_int (nomark _))
        (pss_cons (ps_set (i := 5) scLawValue.nd rfl (.inl rfl) (pe_call GP hr (by rfl) L.gP L.fP.kp L.bP .nil pass0 (pa_cons (pv 0) (pa_cons (pe_gc (v := .ref bA) (by rfl) ⟨_, U.g, rfl⟩) pa_nil))))
        (pss_one (ps_ret (pe_tup (pa_cons pe_str (pa_cons (pv 5) (pa_cons (pe_make J.mB GB h2 (by rfl) T.gB J.bB .nil pass0 (pa_cons (pv 5) pa_nil)) pa_nil)))))))
        pss_nil)
      (pss_cons (ps_set (i := 3) scLawValue.nd rfl (.inl rfl) (pe_call GP hr (by rfl) L.gP L.fP.kp L.bP .nil pass0 (pa_cons (pv 0) (pa_cons (pe_tup (pa_cons pe_int (pa_cons pe_int (pa_cons pe_int (pa_cons pe_int (pa_cons pe_int (pa_cons pe_int (pa_cons pe_int pa_nil)))))))) pa_nil))))
      (pss_one (ps_ret (pe_tup (pa_cons pe_str (pa_cons (pv 3) (pa_cons (pe_make J.mR GR h2 (by rfl) T.gR J.bR .nil pass0 (pa_cons (pv 3) pa_nil)) pa_nil)))))))))))), ?_⟩
    -- kind = _law_draw(state, 7)
    refine ⟨_, rfl, a, p, ns, 7, rfl, st, by decide, by decide, fun H1 kind k1 st1 i0 i7 => ?_⟩
    have lay : ∀ {Hx : Hp} {y : Addr} {o : HO}, Keep p H Hx → Hx y = none → Keep p H (upd Hx y o) := fun kx ny => kx.trans (Same.keep (same_upd ny))
    refine ⟨_, rfl, rfl, _, rfl, ite2 (fun _ => ⟨(by show 3 ≤ sizeLine; decide), fun y ny => ?_⟩) (fun _ => ?_)⟩
    · exact q _ _ .non (lay k1 ny) (st1.same (same_upd ny)) ⟨y, .non, rfl, upd_same, rfl, trivial⟩
    refine ⟨_, rfl, rfl, _, rfl, ite2 (fun _ => ?_) (fun _ => ?_)⟩
    · refine ⟨_, rfl, a, p, ns, 2, rfl, st1, by decide, by decide, fun H2 flag k2 st2 j0 j2 => ?_⟩
      refine ⟨_, rfl, _, rfl, rfl, (by show 3 ≤ sizeLine; decide), fun y ny => ?_⟩
      have hf : flag = 0 ∨ flag = 1 := by omega
      rcases hf with rfl | rfl
      · exact q _ _ (.bl false) (lay (k1.trans k2) ny) (st2.same (same_upd ny)) ⟨y, .bl false, rfl, upd_same, rfl, trivial⟩
      · exact q _ _ (.bl true) (lay (k1.trans k2) ny) (st2.same (same_upd ny)) ⟨y, .bl true, rfl, upd_same, rfl, trivial⟩
    refine ⟨_, rfl, rfl, _, rfl, ite2 (fun _ => ?_) (fun _ => ?_)⟩
    · refine ⟨_, rfl, _, rfl, _, rfl, a, p, ns, 1000000007, rfl, st1, by decide, by decide, fun H2 r k2 st2 j0 j2 => ?_⟩
      refine ⟨(by show 5 ≤ sizeLine; decide), fun y ny => ?_⟩
      refine ⟨a, p, y, ns, _, rfl, st2.same (same_upd ny), .inl (.inl upd_same), (by show 0 < 5; decide), (by show 5 ≤ 100; decide), fun H3 v hv k3 st3 => ?_⟩
      obtain ⟨n, rfl⟩ : ∃ n, v = .int n := by
        simp at hv
        rcases hv with e | e | e | e | e <;> exact ⟨_, e⟩
      refine ⟨_, rfl, _, rfl, (by show 3 ≤ sizeLine; decide), fun z nz => ?_⟩
      exact q _ _ (.int n) (lay ((lay (k1.trans k2) ny).trans k3) nz) (st3.same (same_upd nz)) ⟨z, .int n, rfl, upd_same, rfl, trivial⟩
    refine ⟨_, rfl, rfl, _, rfl, ite2 (fun _ => ?_) (fun _ => ?_)⟩
    · refine ⟨_, rfl, (by show 6 ≤ sizeLine; decide), fun y ny => ?_⟩
      refine ⟨a, p, y, ns, _, rfl, st1.same (same_upd ny), .inl (.inl upd_same), (by show 0 < 6; decide), (by show 6 ≤ 100; decide), fun H2 v hv k2 st2 => ?_⟩
      obtain ⟨z, hz, rfl⟩ : ∃ z, z ∈ reps ∧ v = .str z := by
        simp at hv
        rcases hv with e | e | e | e | e | e
        · exact ⟨_, by simp [reps], e⟩
        · exact ⟨_, by simp [reps], e⟩
        · exact ⟨_, by simp [reps], e⟩
        · exact ⟨_, by simp [reps], e⟩
        · exact ⟨_, by simp [reps], e⟩
        · exact ⟨_, by simp [reps], e⟩
      refine ⟨_, rfl, a, p, ns, 3, rfl, st2, by decide, by decide, fun H3 r k3 st3 j0 j3 => ?_⟩
      refine ⟨_, _, rfl, rfl, _, _, rfl, rfl, rep_ok hz j0 j3, ?_⟩
      refine ⟨_, rfl, _, rfl, (by show 3 ≤ sizeLine; decide), fun x nx => ?_⟩
      exact q _ _ (.str _) (lay (((lay k1 ny).trans k2).trans k3) nx) (st3.same (same_upd nx)) ⟨x, _, rfl, upd_same, rfl, trivial⟩
    refine ⟨_, rfl, rfl, _, rfl, ite2 (fun _ => ?_) (fun _ => ?_)⟩
    · refine ⟨_, rfl, a, p, bA, ns, _, rfl, st1, U.t _, by decide, by decide, fun H2 v hv k2 st2 => ?_⟩
      obtain ⟨z, rfl⟩ := mem_str (by decide +kernel) hv
      refine ⟨_, rfl, _, rfl, fun x dx nx ndx nxd => ⟨x, dx, _, rfl, upd_same, rfl, (by show 3 ≤ sizeLine; decide), fun y ny => ?_⟩⟩
      have s1 : Same H2 (upd (upd (upd H2 dx (.own x)) x (.ins cB dx [])) x (.ins cB dx [("name", .str z)])) := Same.made nx ndx keep_upd
      exact q _ _ (.bi z) (lay ((k1.trans k2).trans (Same.keep s1)) ny) ((st2.same s1).same (same_upd ny)) ⟨y, .ref x, rfl, upd_same, ⟨x, dx, rfl, same_upd ny _ _ upd_same⟩, trivial⟩
    · refine ⟨_, rfl, (by show 7 ≤ sizeLine; decide), fun y ny => ?_⟩
      refine ⟨a, p, y, ns, _, rfl, st1.same (same_upd ny), .inl (.inl upd_same), (by show 0 < 7; decide), (by show 7 ≤ 100; decide), fun H2 v hv k2 st2 => ?_⟩
      obtain ⟨n, rfl, hn⟩ : ∃ n, v = .int n ∧ (0 ≤ n ∧ n < 8) := by
        simp at hv
        rcases hv with e | e | e | e | e | e | e <;> exact ⟨_, e, by decide⟩
      refine ⟨_, rfl, _, rfl, fun x dx nx ndx nxd => ⟨x, dx, _, rfl, upd_same, rfl, (by show 3 ≤ sizeLine; decide), fun z nz => ?_⟩⟩
      have s1 : Same H2 (upd (upd (upd H2 dx (.own x)) x (.ins cR dx [])) x (.ins cR dx [("number", .int n)])) := Same.made nx ndx keep_upd
      exact q _ _ (.obj n) (lay (((lay k1 ny).trans k2).trans (Same.keep s1)) nz) ((st2.same s1).same (same_upd nz)) ⟨z, .ref x, rfl, upd_same, ⟨x, dx, rfl, same_upd nz _ _ upd_same⟩, hn⟩
/-! ### _law_kind -/
abbrev sLawKind : Stmt := top 30
theorem scLawKind : FnScope ["row"] ["row"] (defScope sLawKind) := ⟨rfl, rfl, rfl, by decide +kernel, rfl, by decide +kernel, by decide +kernel⟩
def spLawKind (cR cB : Addr) : Sp := fun vs H Q _ => ∃ v d, vs = [v] ∧ RowOk cR cB H v d ∧ ∀ H', Same H H' → Q (.str (kindK d)) H'
def kindsV : List V := [.str "class", .str "list", .str "map", .str "instance", .str "function", .str "function", .str "function", .str "function"]
theorem kind_at {n : Int} (h0 : 0 ≤ n) (h8 : n < 8) : atI kindsV n = some (.str (kindO n)) := by
  have h : n = 0 ∨ n = 1 ∨ n = 2 ∨ n = 3 ∨ n = 4 ∨ n = 5 ∨ n = 6 ∨ n = 7 := by omega
  rcases h with rfl | rfl | rfl | rfl | rfl | rfl | rfl | rfl <;> rfl
theorem kindS_bi : ∀ d : Dv, decide (V.str (kindS d) = V.str "built-in") = isBi d
  | .non => (by decide +kernel : decide (V.str ("null" : Str) = V.str ("built-in" : Str)) = false)
  | .bl _ => (by decide +kernel : decide (V.str ("boolean" : Str) = V.str ("built-in" : Str)) = false)
  | .int _ => (by decide +kernel : decide (V.str ("integer" : Str) = V.str ("built-in" : Str)) = false)
  | .str _ => (by decide +kernel : decide (V.str ("text" : Str) = V.str ("built-in" : Str)) = false)
  | .obj _ => (by decide +kernel : decide (V.str ("object" : Str) = V.str ("built-in" : Str)) = false)
  | .bi _ => (by decide +kernel : decide (V.str ("built-in" : Str) = V.str ("built-in" : Str)) = true)
theorem kindS_obj : ∀ d : Dv, decide (V.str (kindS d) = V.str "object") = isR d
  | .non => (by decide +kernel : decide (V.str ("null" : Str) = V.str ("object" : Str)) = false)
  | .bl _ => (by decide +kernel : decide (V.str ("boolean" : Str) = V.str ("object" : Str)) = false)
  | .int _ => (by decide +kernel : decide (V.str ("integer" : Str) = V.str ("object" : Str)) = false)
  | .str _ => (by decide +kernel : decide (V.str ("text" : Str) = V.str ("object" : Str)) = false)
  | .obj _ => (by decide +kernel : decide (V.str ("object" : Str) = V.str ("object" : Str)) = true)
  | .bi _ => (by decide +kernel : decide (V.str ("built-in" : Str) = V.str ("object" : Str)) = false)
theorem ok_law_kind {f : Addr} {fd : FuncData} (F : Fun K "_law_kind" "_law_kind" sLawKind f fd) : FnOk P w K mg base CX0 1 f fd ["row"] (spLawKind cR cB) := by
  refine F.ok scLawKind (fun vs H Q E h => ?_) (fun cdv A outer s H vs Q E hr h => ?_)
  · obtain ⟨v, d, rfl, _⟩ := h
    rfl
  · obtain ⟨v, d, rfl, ⟨r, u, rfl, hq, hu, hd⟩, q⟩ := h
    refine ⟨_, pss_cons (ps_if (pt_cmpR op_eq (pe_ix ix_tup (pv 0) pe_int (fun _ _ => rfl)) pe_str (nomark _))
        (pss_one (ps_ret pe_str))
        pss_nil)
      (pss_cons (ps_if (pt_cmpR op_eq (pe_ix ix_tup (pv 0) pe_int (fun _ _ => rfl)) pe_str (nomark _))
        (pss_one (ps_ret (pe_ix ix_tup (pe_tup (pa_cons pe_str (pa_cons pe_str (pa_cons pe_str (pa_cons pe_str (pa_cons pe_str (pa_cons pe_str (pa_cons pe_str (pa_cons pe_str pa_nil))))))))) (pe_ix ix_tup (pv 0) pe_int (fun _ _ => rfl)) (fun _ _ => rfl))))
        pss_nil)
      (pss_one (ps_ret (pe_ix ix_tup (pv 0) pe_int (fun _ _ => rfl))))), ?_⟩
    have hT : SqT K H r [.str (kindS d), tagV d, u] := .inl (.inl hq)
    refine ⟨_, rfl, r, _, _, _, rfl, rfl, hT, rfl, rfl, _, rfl, ?_⟩
    rw [kindS_bi]
    cases d with
    | bi s => exact iteT (q H (Same.refl _))
    | obj n =>
      refine iteF ⟨_, rfl, r, _, _, _, rfl, rfl, hT, rfl, rfl, _, rfl, iteT ⟨(by show 8 ≤ sizeLine; decide), fun y ny => ?_⟩⟩
      exact ⟨_, rfl, r, _, _, _, rfl, rfl, .inl (.inl (same_upd ny _ _ hq)), rfl, y, _, _, _, rfl, rfl, .inl (.inl upd_same), kind_at hd.1 hd.2, q _ (same_upd ny)⟩
    | non => exact iteF ⟨_, rfl, r, _, _, _, rfl, rfl, hT, rfl, rfl, _, rfl, iteF ⟨_, rfl, r, _, _, _, rfl, rfl, hT, rfl, q H (Same.refl _)⟩⟩
    | bl b => exact iteF ⟨_, rfl, r, _, _, _, rfl, rfl, hT, rfl, rfl, _, rfl, iteF ⟨_, rfl, r, _, _, _, rfl, rfl, hT, rfl, q H (Same.refl _)⟩⟩
    | int b => exact iteF ⟨_, rfl, r, _, _, _, rfl, rfl, hT, rfl, rfl, _, rfl, iteF ⟨_, rfl, r, _, _, _, rfl, rfl, hT, rfl, q H (Same.refl _)⟩⟩
    | str b => exact iteF ⟨_, rfl, r, _, _, _, rfl, rfl, hT, rfl, rfl, _, rfl, iteF ⟨_, rfl, r, _, _, _, rfl, rfl, hT, rfl, q H (Same.refl _)⟩⟩
end
end My
namespace My
open PySem L2 SX
open C8 (pss_cut tCut cutS_slice pe_gc)
def kn : Dv → Nat
  | .non => 0 | .bl _ => 1 | .int _ => 2 | .str _ => 3 | .obj _ => 4 | .bi _ => 5
def nmS : Nat → Str
  | 0 => "null" | 1 => "boolean" | 2 => "integer" | 3 => "text" | 4 => "object" | _ => "built-in"
theorem kindS_nm (d : Dv) : kindS d = nmS (kn d) := by cases d <;> rfl
theorem kn_lt (d : Dv) : kn d < 6 := by cases d <;> (simp only [kn]; omega)
theorem nm_inj : ∀ i, i < 6 → ∀ j, j < 6 → decide (V.str (nmS i) = V.str (nmS j)) = decide (i = j) := by decide +kernel
theorem kinds_eq (d e : Dv) : decide (V.str (kindS d) = V.str (kindS e)) = decide (kn d = kn e) := by
  rw [kindS_nm, kindS_nm]
  exact nm_inj _ (kn_lt d) _ (kn_lt e)
theorem tags_eq {d e : Dv} (h : kn d = kn e) : scal (tagV d) (tagV e) = true ∧ decide (tagV d = tagV e) = decide (d = e) ∧ isB d = isB e := by
  cases d <;> cases e <;> first
    | (exfalso; dsimp only [kn] at h; omega)
    | (rename_i b c; cases b <;> cases c <;> exact ⟨rfl, by decide, rfl⟩)
    | exact ⟨rfl, by simp [tagV], rfl⟩
theorem kn_of {d e : Dv} (h : kn d ≠ kn e) : decide (d = e) = false := decide_eq_false fun z => h (by rw [z])
section
variable {P : Program} {w : World} {K : PySem.W.Frag} {mg : Str → Option Value} {base : Heap} {cR cB cP cT cI cK cC cD cV cU cS : Addr} {fR fB fP fT fI fK fC fD fV fU fS fM fA : Addr} {gR gB gP gT gI gK gC gD gV gU gS gM gA : FuncData}
  {lC lB lD lP lS lV lK lT bA : Addr} {hC hB hD hP hS hV hK hT : FuncData} {eR eB kE kO kT kI kY : Addr} {jR jB uE uO uT uI uY : FuncData}
/-! ### _law_two -/
abbrev sLawTwo : Stmt := top 31
theorem scLawTwo : FnScope ["one", "two", "told", "back", "due"] ["one", "two"] (defScope sLawTwo) := ⟨rfl, rfl, rfl, by decide +kernel, rfl, by decide +kernel, by decide +kernel⟩
def spLawTwo (cR cB : Addr) : Sp := fun vs H Q _ => ∃ v1 v2 d e, vs = [v1, v2] ∧ RowOk cR cB H v1 d ∧ RowOk cR cB H v2 e ∧ ∀ H', Same H H' → Q (.bl true) H'
theorem ok_law_two {f : Addr} {fd : FuncData} (F : Fun K "_law_two" "_law_two" sLawTwo f fd) (T : Kt K mg cR cB cP cT cI cK cC cD cV cU cS) (B : Bl mg) (Z : Eqs P w K mg base cR cB eR eB jR jB)
    (FE : Fun K "equal" "equal" sEqual kE uE) (bE : Binds K uE ["x", "y"] []) (mE : mg "equal" = some (.ref kE)) : FnOk P w K mg base CX0 3 f fd ["one", "two"] (spLawTwo cR cB) := by
  have GE : FnOk P w K mg base CX0 2 kE uE ["x", "y"] (spEqual cR cB) := ok_equal FE T B Z
  refine F.ok scLawTwo (fun vs H Q E h => ?_) (fun cdv A outer s H vs Q E hr h => ?_)
  · obtain ⟨v1, v2, d, e, rfl, _⟩ := h
    rfl
  · obtain ⟨v1, v2, d, e, rfl, ⟨r1, u1, rfl, h1, x1, o1⟩, ⟨r2, u2, rfl, h2, x2, o2⟩, q⟩ := h
    have t1 : SqT K H r1 [.str (kindS d), tagV d, u1] := .inl (.inl h1)
    have t2 : SqT K H r2 [.str (kindS e), tagV e, u2] := .inl (.inl h2)
    refine ⟨_, pss_cons (ps_set (i := 2) scLawTwo.nd rfl (.inl rfl) (pe_call GE hr (by rfl) mE FE.kp bE .nil pass0 (pa_cons (pe_ix ix_tup (pv 0) pe_int (fun _ _ => rfl)) (pa_cons (pe_ix ix_tup (pv 1) pe_int (fun _ _ => rfl)) pa_nil))))
      (pss_cons (ps_set (i := 3) scLawTwo.nd rfl (.inl rfl) (pe_call GE hr (by rfl) mE FE.kp bE .nil pass0 (pa_cons (pe_ix ix_tup (pv 1) pe_int (fun _ _ => rfl)) (pa_cons (pe_ix ix_tup (pv 0) pe_int (fun _ _ => rfl)) pa_nil))))
      (pss_cut (ps_set (i := 4) scLawTwo.nd rfl (.inl rfl) (pe_and (pe_cmpR op_eq (pe_ix ix_tup (pv 0) pe_int (fun _ _ => rfl)) (pe_ix ix_tup (pv 1) pe_int (fun _ _ => rfl)) (nomark _)) (pe_one (pe_cmpR op_eq (pe_ix ix_tup (pv 0) pe_int (fun _ _ => rfl)) (pe_ix ix_tup (pv 1) pe_int (fun _ _ => rfl)) (nomark _)))))
      (pss_cons (ps_if (PW.pt (pw_or (pt_not (pt_val (pe_callB call_isi (by rfl) B.isinstance (by decide +kernel) (pa_cons (pv 2) (pa_cons (pe_bltn (v := .ty "bool") (by rfl) B.bool (by decide +kernel) rfl) pa_nil))))) (pw_or (pt_not (pt_val (pe_callB call_isi (by rfl) B.isinstance (by decide +kernel) (pa_cons (pv 3) (pa_cons (pe_bltn (v := .ty "bool") (by rfl) B.bool (by decide +kernel) rfl) pa_nil))))) (pw_or (pt_cmpR op_ne (pv 2) (pv 4) (nomark _)) (pw_or1 (pt_cmpR op_ne (pv 3) (pv 4) (nomark _)))))))
        (pss_one (ps_ret pe_bl))
        pss_nil)
      (pss_cons (ps_if (PW.pt (pw_and (pt_cmpR op_eq (pe_ix ix_tup (pv 0) pe_int (fun _ _ => rfl)) (pe_ix ix_tup (pv 1) pe_int (fun _ _ => rfl)) (nomark _)) (pw_and1 (pt_cmpR op_in_seq (pe_ix ix_tup (pv 0) pe_int (fun _ _ => rfl)) (pe_tup (pa_cons pe_str (pa_cons pe_str pa_nil))) (by rfl)))))
        (pss_one (ps_ret (pe_cmpR op_eq (pe_cmpR (op_eqM T Z (hr.mono (by decide))) (pe_ix ix_tup (pv 0) pe_int (fun _ _ => rfl)) (pe_ix ix_tup (pv 1) pe_int (fun _ _ => rfl)) (nomark _)) (pv 4) (nomark _))))
        pss_nil)
      (pss_one (ps_ret pe_bl)))))), ?_⟩
    refine ⟨_, rfl, r1, _, _, _, rfl, rfl, t1, rfl, _, rfl, r2, _, _, _, rfl, rfl, t2, rfl, u1, u2, d, e, rfl, x1, x2, ?_⟩
    refine ⟨_, rfl, r2, _, _, _, rfl, rfl, t2, rfl, _, rfl, r1, _, _, _, rfl, rfl, t1, rfl, u2, u1, e, d, rfl, x2, x1, ?_⟩
    rw [show decide (e = d) = decide (d = e) by simp [eq_comm]]
    let M : List (Option V) → Hp → Prop := fun σ' H' => σ' = [some (.ref r1), some (.ref r2), some (.bl (decide (d = e))), some (.bl (decide (d = e))), some (.bl (decide (d = e)))] ∧ H' = H
    refine ⟨M, ⟨_, rfl, r1, _, _, _, rfl, rfl, t1, rfl, _, rfl, r2, _, _, _, rfl, rfl, t2, rfl, rfl, _, rfl, ?_⟩, ?_⟩
    · rw [kinds_eq]
      refine ite2 (fun hk => ?_) (fun hk => ?_)
      · have hk' : kn d = kn e := of_decide_eq_true hk
        obtain ⟨g1, g2, g3⟩ := tags_eq hk'
        refine ⟨_, rfl, r1, _, _, _, rfl, rfl, t1, rfl, _, rfl, r2, _, _, _, rfl, rfl, t2, rfl, g1, ?_⟩
        rw [g2]
        exact ⟨rfl, rfl⟩
      · have hk' : kn d ≠ kn e := fun z => hk (decide_eq_true z)
        have g := kn_of hk'
        show M _ _
        exact ⟨by rw [g]; rfl, rfl⟩
    rintro σ' H' ⟨rfl, rfl⟩
    have kb : PySem.W.kitOne K (.type "bool") (.type "bool") = some true := kit_ty (show kitB "bool" "bool" = some true by decide +kernel)
    have nn : (!decide (V.bl (decide (d = e)) = V.bl (decide (d = e)))) = false := by simp
    refine ⟨_, rfl, _, .ty "bool", _, _, true, rfl, .ty _, .base (.bl _), kb, _, rfl, iteF ⟨_, rfl, _, .ty "bool", _, _, true, rfl, .ty _, .base (.bl _), kb, _, rfl, iteF ⟨_, rfl, _, rfl, rfl, _, rfl, ?_⟩⟩⟩
    rw [nn]
    refine iteF ⟨_, rfl, _, rfl, rfl, _, rfl, ?_⟩
    rw [nn]
    refine iteF ?_
    refine ⟨_, rfl, r1, _, _, _, rfl, rfl, t1, rfl, _, rfl, r2, _, _, _, rfl, rfl, t2, rfl, rfl, _, rfl, ?_⟩
    rw [kinds_eq]
    refine ite2 (fun hk => ?_) (fun _ => iteF (q _ (Same.refl _)))
    have hk' : kn d = kn e := of_decide_eq_true hk
    obtain ⟨g1, g2, g3⟩ := tags_eq hk'
    refine ⟨_, rfl, r1, _, _, _, rfl, rfl, t1, rfl, (by show 2 ≤ sizeLine; decide), fun y ny => ?_⟩
    have sy := same_upd (o := .tup [.str "built-in", .str "object"]) ny
    refine ⟨y, _, rfl, .inr (.inl (.inl upd_same)), rfl, rfl, _, rfl, ite2 (fun _ => ?_) (fun _ => q _ sy)⟩
    refine ⟨_, rfl, r1, _, _, _, rfl, rfl, .inl (.inl (sy _ _ h1)), rfl, _, rfl, r2, _, _, _, rfl, rfl, .inl (.inl (sy _ _ h2)), rfl, d, e, x1.same sy, x2.same sy, g3, _, rfl, rfl, ?_⟩
    rw [show decide (V.bl (decide (d = e)) = V.bl (decide (d = e))) = true by simp]
    exact q _ sy
end
end My
namespace My
open PySem L2 SX
open C8 (pss_cut tCut cutS_slice pe_gc)
section
variable {P : Program} {w : World} {K : PySem.W.Frag} {mg : Str → Option Value} {base : Heap} {cR cB cP cT cI cK cC cD cV cU cS : Addr} {fR fB fP fT fI fK fC fD fV fU fS fM fA : Addr} {gR gB gP gT gI gK gC gD gV gU gS gM gA : FuncData}
  {lC lB lD lP lS lV lK lT bA : Addr} {hC hB hD hP hS hV hK hT : FuncData} {eR eB kE kO kT kI kY kH : Addr} {jR jB uE uO uT uI uY uH : FuncData}
/-- the rest of the defs, where they stand -/
structure Rst (K : PySem.W.Frag) (mg : Str → Option Value) (kE kO kH kI kY lS lV lK lT : Addr) (uE uO uH uI uY hS hV hK hT : FuncData) : Prop where
  fE : Fun K "equal" "equal" sEqual kE uE
  bE : Binds K uE ["x", "y"] []
  gE : mg "equal" = some (.ref kE)
  fO : Fun K "kind_of" "kind_of" sKindOf kO uO
  bO : Binds K uO ["store", "value"] []
  gO : mg "kind_of" = some (.ref kO)
  fH : Fun K "kind_of_thing" "kind_of_thing" sKindThing kH uH
  bH : Binds K uH ["thing"] []
  gH : mg "kind_of_thing" = some (.ref kH)
  fI : Fun K "is_true" "is_true" sIsTrue kI uI
  bI : Binds K uI ["value"] []
  gI : mg "is_true" = some (.ref kI)
  fY : Fun K "is_key" "is_key" sIsKey kY uY
  bY : Binds K uY ["value"] []
  gY : mg "is_key" = some (.ref kY)
  fS : Fun K "_law_store" "_law_store" sLawStore lS hS
  bS : Binds K hS [] []
  gS : mg "_law_store" = some (.ref lS)
  fV : Fun K "_law_value" "_law_value" sLawValue lV hV
  bV : Binds K hV ["state"] []
  gV : mg "_law_value" = some (.ref lV)
  fK : Fun K "_law_kind" "_law_kind" sLawKind lK hK
  bK : Binds K hK ["row"] []
  gK : mg "_law_kind" = some (.ref lK)
  fT : Fun K "_law_two" "_law_two" sLawTwo lT hT
  bT : Binds K hT ["one", "two"] []
  gT : mg "_law_two" = some (.ref lT)
/-! ### law -/
abbrev sLaw : Stmt := top 32
theorem scLaw : FnScope ["script", "state", "store", "rows", "one", "two", "told", "due", "k"] ["script"] (defScope sLaw) := ⟨rfl, rfl, rfl, by decide +kernel, rfl, by decide +kernel, by decide +kernel⟩
def spLaw (K : PySem.W.Frag) : Sp := fun vs H Q _ => ∃ (a : Addr) (ns : List Int), vs = [.ref a] ∧ SqL K H a (ns.map V.int) ∧ ns.length ≤ 63 ∧ ∀ H', Q (.bl true) H'
theorem dp_blt {H : Hp} : DpAll K H bltV bltD := by
  unfold bltV bltD
  repeat (first | exact .nil | refine .cons (.str _) ?_)
def keyE : Dv → Bool := fun d => !(isBi d || isR d)
theorem key_eq (d : Dv) : keyD d = keyE d := by cases d <;> rfl
theorem notin_eq (d : Dv) : (!inV (.str (kindS d)) [.str "built-in", .str "object"]) = keyD d := by
  cases d <;> first
    | exact (by decide +kernel : (!inV (.str "null") [.str "built-in", .str "object"]) = true)
    | exact (by decide +kernel : (!inV (.str "boolean") [.str "built-in", .str "object"]) = true)
    | exact (by decide +kernel : (!inV (.str "integer") [.str "built-in", .str "object"]) = true)
    | exact (by decide +kernel : (!inV (.str "text") [.str "built-in", .str "object"]) = true)
    | exact (by decide +kernel : (!inV (.str "object") [.str "built-in", .str "object"]) = false)
    | exact (by decide +kernel : (!inV (.str "built-in") [.str "built-in", .str "object"]) = false)
theorem ne_null (d : Dv) : (!decide (V.str (kindS d) = V.str "null")) = decide (kn d ≠ 0) := by
  have h := kinds_eq d .non
  rw [show (kindS .non : Str) = "null" from rfl] at h
  rw [h]
  by_cases z : kn d = 0
  · rw [show kn Dv.non = 0 from rfl, decide_eq_true z, decide_eq_false (fun y => y z)]
    rfl
  · rw [show kn Dv.non = 0 from rfl, decide_eq_false z, decide_eq_true z]
    rfl
theorem eq_bool (d : Dv) : decide (V.str (kindS d) = V.str "boolean") = isB d := by
  have h := kinds_eq d (.bl true)
  rw [show (kindS (.bl true) : Str) = "boolean" from rfl] at h
  rw [h]
  cases d <;> rfl
theorem okLaw {f : Addr} {fd : FuncData} (F : Fun K "law" "law" sLaw f fd) (T : Kt K mg cR cB cP cT cI cK cC cD cV cU cS) (B : Bl mg) (J : Ini K cR cB cP cT cI cK cC cD cV cU cS fR fB fP fT fI fK fC fD fV fU fS fM fA gR gB gP gT gI gK gC gD gV gU gS gM gA)
    (L : LawD K mg lC lB lD lP lS lV lK lT hC hB hD hP hS hV hK hT) (U : BT K mg bA) (Z : Eqs P w K mg base cR cB eR eB jR jB) (R : Rst K mg kE kO kH kI kY lS lV lK lT uE uO uH uI uY hS hV hK hT) : FnOk P w K mg base CX0 6 f fd ["script"] (spLaw K) := by
  have GBe : FnOk P w K mg base CX0 1 lB hB ["script", "k"] (spBegin K) := ok_begin L.fB
  have GSt : FnOk P w K mg base CX0 5 lS hS [] (spLawStore cP cT cI cK cC cD cV cU cS) := ok_law_store R.fS T B J
  have GVa : FnOk P w K mg base CX0 4 lV hV ["state"] (spLawValue K cR cB) := ok_law_value R.fV T B J L U
  have GTw : FnOk P w K mg base CX0 3 lT hT ["one", "two"] (spLawTwo cR cB) := ok_law_two R.fT T B Z R.fE R.bE R.gE
  have GTr : FnOk P w K mg base CX0 1 kI uI ["value"] (spIsTrue cR cB) := ok_is_true R.fI
  have GKe : FnOk P w K mg base CX0 1 kY uY ["value"] (spIsKey cR cB) := ok_is_key R.fY T B
  have GKo : FnOk P w K mg base CX0 2 kO uO ["store", "value"] (spKindOf cR cB cP cT cI cK cC cD cV cU cS) := ok_kind_of R.fO T B R.fH R.bH R.gH J.FA J.bA J.mA
  have GKi : FnOk P w K mg base CX0 1 lK hK ["row"] (spLawKind cR cB) := ok_law_kind R.fK
  have GR : FnOk P w K mg base CX0 1 fR gR ["self", "number"] (spI1 cR "number") := ok_IR J.FR T
  have GB : FnOk P w K mg base CX0 1 fB gB ["self", "name"] (spI1 cB "name") := ok_IB J.FB T
  refine F.ok scLaw (fun vs H Q E h => ?_) (fun cdv A outer s H vs Q E hr h => ?_)
  · obtain ⟨a, ns, rfl, _⟩ := h
    rfl
  · obtain ⟨a, ns, rfl, hS, hlen, q⟩ := h
    have h1 : Room 1 _ := hr.mono (by decide)
    have h2 : Room 2 _ := hr.mono (by decide)
    have h3 : Room 3 _ := hr.mono (by decide)
    have h4 : Room 4 _ := hr.mono (by decide)
    have h5 : Room 5 _ := hr.mono (by decide)
    refine ⟨_, pss_cons (ps_if (pt_cmpR (op_neD hr.units) (pe_gc (v := .ref bA) (by rfl) ⟨_, U.g, rfl⟩) (pe_tup (pa_cons pe_str (pa_cons pe_str (pa_cons pe_str (pa_cons pe_str (pa_cons pe_str (pa_cons pe_str (pa_cons pe_str (pa_cons pe_str (pa_cons pe_str (pa_cons pe_str (pa_cons pe_str (pa_cons pe_str (pa_cons pe_str (pa_cons pe_str (pa_cons pe_str (pa_cons pe_str (pa_cons pe_str (pa_cons pe_str (pa_cons pe_str pa_nil)))))))))))))))))))) (nomark _))
        (pss_one (ps_ret pe_bl))
        pss_nil)
      (pss_cons (ps_set (i := 1) scLaw.nd rfl (.inr rfl) (pe_call GBe h1 (by rfl) L.gB L.fB.kp L.bB .nil pass0 (pa_cons (pv 0) (pa_cons pe_int pa_nil))))
      (pss_cons (ps_set (i := 2) scLaw.nd rfl (.inl rfl) (pe_call0 GSt h5 (by rfl) R.gS R.fS.kp R.bS .nil pass0))
      (pss_cons (ps_setLc (i := 3) (own := [("k", 8)]) (g := gName 8) (tt := tYes) (by rfl) scLaw.nd rfl rfl (sw_true rfl rfl rfl (by decide +kernel)) (pi_range1 (by rfl) B.range (pa_cons (pe_callB (call_min2 rfl) (by rfl) B.min (by decide +kernel) (pa_cons pe_int (pa_cons (pe_callB (call_max2 rfl) (by rfl) B.max (by decide +kernel) (pa_cons pe_int (pa_cons (pe_callB call_len_seq (by rfl) B.len PySem.boot_len (pa_cons (pv 0) pa_nil)) pa_nil))) pa_nil))) pa_nil)) (blkOk_by (own := [("k", 8)]) (N := ["script", "state", "store", "rows", "one", "two", "told", "due", "k"]) (sc := defScope sLaw) (by decide +kernel)) (fun _ _ _ _ _ => pg_name (i := 8) scLaw.nd rfl (.inl rfl)) (fun _ _ _ _ _ => pts_nil) (fun _ _ _ _ _ => (pe_call GVa h4 (by rfl) R.gV R.fV.kp R.bV .nil pass0 (pa_cons (pv 1) pa_nil))))
      (pss_cons (ps_for PassesOwn.never rfl (pi_list (pv 3)) (pg_name (i := 4) scLaw.nd rfl (.inl rfl))
        (pss_cons (ps_for PassesOwn.never rfl (pi_list (pv 3)) (pg_name (i := 5) scLaw.nd rfl (.inl rfl))
          (pss_one (ps_if (pt_not (pt_val (pe_call GTw h3 (by rfl) R.gT R.fT.kp R.bT .nil pass0 (pa_cons (pv 4) (pa_cons (pv 5) pa_nil)))))
            (pss_one (ps_ret pe_bl))
            pss_nil)))
        (pss_cons (ps_set (i := 6) scLaw.nd rfl (.inl rfl) (pe_call GTr h1 (by rfl) R.gI R.fI.kp R.bI .nil pass0 (pa_cons (pe_ix ix_tup (pv 4) pe_int (fun _ _ => rfl)) pa_nil)))
        (pss_cut (ps_set (i := 7) scLaw.nd rfl (.inl rfl) (pe_and (pe_cmpR op_ne (pe_ix ix_tup (pv 4) pe_int (fun _ _ => rfl)) pe_str (nomark _)) (pe_one (pe_not (pe_and (pe_cmpR op_eq (pe_ix ix_tup (pv 4) pe_int (fun _ _ => rfl)) pe_str (nomark _)) (pe_one (pe_cmpR op_eq (pe_ix ix_tup (pv 4) pe_int (fun _ _ => rfl)) pe_int (nomark _))))))))
        (pss_cons (ps_if (PW.pt (pw_or (pt_not (pt_val (pe_callB call_isi (by rfl) B.isinstance (by decide +kernel) (pa_cons (pv 6) (pa_cons (pe_bltn (v := .ty "bool") (by rfl) B.bool (by decide +kernel) rfl) pa_nil))))) (pw_or1 (pt_cmpR op_ne (pv 6) (pv 7) (nomark _)))))
          (pss_one (ps_ret pe_bl))
          pss_nil)
        (pss_cons (ps_set (i := 6) scLaw.nd rfl (.inl rfl) (pe_call GKe h1 (by rfl) R.gY R.fY.kp R.bY .nil pass0 (pa_cons (pe_ix ix_tup (pv 4) pe_int (fun _ _ => rfl)) pa_nil)))
        (pss_cons (ps_if (PW.pt (pw_or (pt_not (pt_val (pe_callB call_isi (by rfl) B.isinstance (by decide +kernel) (pa_cons (pv 6) (pa_cons (pe_bltn (v := .ty "bool") (by rfl) B.bool (by decide +kernel) rfl) pa_nil))))) (pw_or1 (pt_cmpR op_ne (pv 6) (pe_cmpR op_notIn_seq (pe_ix ix_tup (pv 4) pe_int (fun _ _ => rfl)) (pe_tup (pa_cons pe_str (pa_cons pe_str pa_nil))) (by rfl)) (nomark _)))))
          (pss_one (ps_ret pe_bl))
          pss_nil)
        (pss_one (ps_if (pt_cmpR op_ne (pe_call GKo h2 (by rfl) R.gO R.fO.kp R.bO .nil pass0 (pa_cons (pv 2) (pa_cons (pe_ix ix_tup (pv 4) pe_int (fun _ _ => rfl)) pa_nil))) (pe_call GKi h1 (by rfl) R.gK R.fK.kp R.bK .nil pass0 (pa_cons (pv 4) pa_nil)) (nomark _))
          (pss_one (ps_ret pe_bl))
          pss_nil)))))))))
      (pss_one (ps_ret (pe_and (pe_cmpR (op_eqM T Z h1) (pe_make J.mR GR h2 (by rfl) T.gR J.bR .nil pass0 (pa_cons pe_int pa_nil)) (pe_make J.mR GR h2 (by rfl) T.gR J.bR .nil pass0 (pa_cons pe_int pa_nil)) (nomark _))
        (pe_and (pe_cmpR (op_eqM T Z h1) (pe_make J.mB GB h2 (by rfl) T.gB J.bB .nil pass0 (pa_cons pe_str pa_nil)) (pe_make J.mB GB h2 (by rfl) T.gB J.bB .nil pass0 (pa_cons pe_str pa_nil)) (nomark _)) (pe_one (pe_cmpR op_eq (pe_callB call_len_seq (by rfl) B.len PySem.boot_len (pa_cons (pe_fld (pv 2) rfl) pa_nil)) pe_int (nomark _))))))))))), ?_⟩
    -- if BUILTINS != (..)
    refine ⟨(by show 19 ≤ sizeLine; decide), fun y0 ny0 => ?_⟩
    refine ⟨.tuple bltD, .tuple bltD, .tup (U.t _) dp_blt, .tup (.inl (.inl upd_same)) dp_blt, (by decide +kernel), (by decide +kernel), _, rfl, ?_⟩
    rw [SeqAt.eqv_refl _ (by decide +kernel)]
    refine iteF ?_
    have s0 := same_upd (o := .tup bltV) ny0
    -- state, store
    refine ⟨_, rfl, a, ns, rfl, s0.seq hS, fun H1 p np s1 st1 => ?_⟩
    refine ⟨rfl, fun H2 sA t s2 S2 => ?_⟩
    have st2 := st1.same s2
    obtain ⟨px, pk, hp2, pk0, hS2⟩ := id st2
    have nn : ∀ b : Bool, (!decide (V.bl b = V.bl b)) = false := fun b => by simp
    have kb : PySem.W.kitOne K (.type "bool") (.type "bool") = some true := kit_ty (show kitB "bool" "bool" = some true by decide +kernel)
    -- rows
    refine ⟨_, rfl, a, _, rfl, .inl hS2, _, _, rfl, _, _, rfl, _, rfl, ?_, ?_, fun D nD => lc_range (fun i H' => ∃ rs : List V, rs.length = i ∧ Keep p H2 H' ∧ StL K H' a p ns ∧ H' D = some (.lst rs) ∧ ∀ v ∈ rs, ∃ d, RowOk cR cB H' v d) ?_ ?_ ?_⟩
    · split <;> omega
    · split
      · split <;> omega
      · omega
    · exact ⟨[], rfl, Same.keep (same_upd nD), st2.same (same_upd nD), upd_same, fun v hv => by cases hv⟩
    · rintro i H' hi ⟨rs, hl, k1, st', hD, hr'⟩
      have hi9 : i < 9 := by
        refine Nat.lt_of_lt_of_le hi ?_
        split
        · omega
        · decide
      refine ⟨rfl, _, rfl, a, p, ns, rfl, st', fun H4 v d k4 st4 r4 => ?_⟩
      obtain ⟨x', k', hp', _⟩ := id st'
      have nDp : D ≠ p := fun z => by rw [z, hp2] at nD; cases nD
      have hD4 : H4 D = some (.lst rs) := k4 _ _ hD nDp
      have kD : Keep D H4 (upd H4 D (.lst (rs ++ [v]))) := keep_upd
      refine ⟨rs, hD4, (by rw [sizeLine_eq]; omega), rs ++ [v], by rw [List.length_append, hl]; rfl, fun b o e n => ?_, ?_, upd_same, fun z hz => ?_⟩
      · rw [upd_ne (fun z => by rw [z, nD] at e; cases e)]
        exact k4 _ _ (k1 _ _ e n) n
      · obtain ⟨x4, k4', hp4, hk4, hS4⟩ := st4
        refine ⟨x4, k4', by rw [upd_ne nDp.symm]; exact hp4, hk4, ?_⟩
        refine sql_keep (p := p) (fun b o e n => ?_) hp2 hS2
        rw [upd_ne (fun z => by rw [z, nD] at e; cases e)]
        exact k4 _ _ (k1 _ _ e n) n
      · rcases List.mem_append.mp hz with hz | hz
        · obtain ⟨d', hd'⟩ := hr' z hz
          exact ⟨d', (hd'.keep k4 hp').keep kD hD4⟩
        · rw [List.mem_singleton] at hz
          subst hz
          exact ⟨d, r4.keep kD hD4⟩
    rintro H3 ⟨rs, hl, k3, st3, hD3, hrs⟩
    have S3 : StoreAt cS H3 sA t [cK, cP, cT, cI, cC, cD, cV, cU] := S2.keep k3 hp2
    have mem : ∀ {i : Nat} {v : V}, rs[i]? = some v → ∃ d, RowOk cR cB H3 v d := fun e => hrs _ (List.mem_of_getElem? e)
    -- for one in rows:
    refine ⟨_, rfl, D, rfl, ⟨_, SqL.of hD3⟩, for_list (K := K) (a := D) (xs := rs) (fun i σ H' => ∃ y4 y5 y6 y7 : Option V, σ = [some (.ref a), some (.ref p), some (.ref sA), some (.ref D), y4, y5, y6, y7, none] ∧ Same H3 H')
      ⟨none, none, none, none, rfl, Same.refl _⟩ (fun i σ H' _ ⟨_, _, _, _, _, s⟩ => s.seq (SqL.of hD3)) ?_ ?_⟩
    · rintro i v σ H4 hi ⟨y4, y5, y6, y7, rfl, s4⟩
      obtain ⟨d, hd⟩ := mem hi
      -- for two in rows:
      refine ⟨_, rfl, D, rfl, ⟨_, s4.seq (SqL.of hD3)⟩, for_list (K := K) (a := D) (xs := rs) (fun j σ H' => ∃ y5 : Option V, σ = [some (.ref a), some (.ref p), some (.ref sA), some (.ref D), some v, y5, y6, y7, none] ∧ Same H3 H')
        ⟨y5, rfl, s4⟩ (fun i σ H' _ ⟨_, _, s⟩ => s.seq (SqL.of hD3)) ?_ ?_⟩
      · rintro j v2 σ H5 hj ⟨y5, rfl, s5⟩
        obtain ⟨e, he⟩ := mem hj
        exact ⟨_, rfl, _, rfl, v, v2, d, e, rfl, hd.same s5, he.same s5, fun H6 s6 => ⟨true, rfl, iteF ⟨_, rfl, s5.trans s6⟩⟩⟩
      rintro σ H5 ⟨y5, rfl, s5⟩
      have hd5 := hd.same s5
      obtain ⟨q0, u, rfl, hq, hu, hok⟩ := id hd5
      have hT : SqT K H5 q0 [.str (kindS d), tagV d, u] := .inl (.inl hq)
      -- told = is_true(one[2])
      refine ⟨_, rfl, q0, _, _, _, rfl, rfl, hT, rfl, u, d, rfl, hu, ?_⟩
      -- due = ..
      let M : List (Option V) → Hp → Prop := fun σ' H' => σ' = [some (.ref a), some (.ref p), some (.ref sA), some (.ref D), some (.ref q0), y5, some (.bl (trueD d)), some (.bl (trueD d)), none] ∧ H' = H5
      refine ⟨M, ⟨_, rfl, q0, _, _, _, rfl, rfl, hT, rfl, rfl, _, rfl, ?_⟩, ?_⟩
      · rw [ne_null]
        cases d with
        | non => exact iteF ⟨rfl, rfl⟩
        | bl b =>
          refine iteT ⟨_, rfl, q0, _, _, _, rfl, rfl, hT, rfl, rfl, _, rfl, ?_⟩
          rw [eq_bool]
          refine iteT ⟨_, rfl, q0, _, _, _, rfl, rfl, hT, rfl, rfl, _, rfl, ?_⟩
          cases b <;> exact ⟨rfl, rfl⟩
        | _ =>
          refine iteT ⟨_, rfl, q0, _, _, _, rfl, rfl, hT, rfl, rfl, _, rfl, ?_⟩
          rw [eq_bool]
          exact iteF ⟨false, rfl, rfl, rfl⟩
      rintro σ' H' ⟨rfl, rfl⟩
      refine ⟨_, rfl, _, .ty "bool", _, _, true, rfl, .ty _, .base (.bl _), kb, _, rfl, iteF ⟨_, rfl, _, rfl, rfl, _, rfl, ?_⟩⟩
      rw [nn]
      refine iteF ?_
      -- told = is_key(one[2])
      refine ⟨_, rfl, q0, _, _, _, rfl, rfl, hT, rfl, u, d, rfl, hu, fun H6 s6 => ?_⟩
      have hT6 : SqT K H6 q0 [.str (kindS d), tagV d, u] := .inl (.inl (s6 _ _ hq))
      refine ⟨_, rfl, _, .ty "bool", _, _, true, rfl, .ty _, .base (.bl _), kb, _, rfl, iteF ⟨_, rfl, _, rfl, q0, _, _, _, rfl, rfl, hT6, rfl, (by show 2 ≤ sizeLine; decide), fun y ny => ⟨y, _, rfl, .inr (.inl (.inl upd_same)), rfl, rfl, rfl, _, rfl, ?_⟩⟩⟩
      have s7 := same_upd (o := .tup [.str "built-in", .str "object"]) ny
      have hni : (!decide (V.bl (keyD d) = V.bl (!inV (.str (kindS d)) [.str "built-in", .str "object"]))) = false := by
        rw [notin_eq]
        exact nn _
      show if (!decide (V.bl (keyD d) = V.bl (!inV (.str (kindS d)) [.str "built-in", .str "object"]))) = true then _ else _
      rw [hni]
      refine iteF ?_
      -- if kind_of(store, one[2]) != _law_kind(one):
      have s37 := (s5.trans s6).trans s7
      refine ⟨_, rfl, _, rfl, q0, _, _, _, rfl, rfl, .inl (.inl (s7 _ _ (s6 _ _ hq))), rfl, sA, t, u, d, rfl, S3.same s37, (hu.same s6).same s7, hok, _, rfl, _, d, rfl, hd.same s37, fun H8 s8 => ⟨rfl, _, rfl, ?_⟩⟩
      rw [show (!decide (V.str (kindK d) = V.str (kindK d))) = false by simp]
      exact iteF ⟨_, _, _, _, rfl, s37.trans s8⟩
    rintro σ H4 ⟨y4, y5, y6, y7, rfl, s4⟩
    have S4 := S3.same s4
    -- return Ref(3) == Ref(3) and ..
    refine fun x dx nx ndx nxd => ⟨x, dx, _, rfl, upd_same, rfl, fun x2 dx2 nx2 ndx2 nxd2 => ⟨x2, dx2, _, rfl, upd_same, rfl, .obj 3, .obj 3, ?_, ⟨x2, dx2, rfl, upd_same⟩, rfl, _, rfl, ?_⟩⟩
    · exact ⟨x, dx, rfl, Same.made nx2 ndx2 keep_upd _ _ upd_same⟩
    have sA1 := Same.made (C := cR) nx ndx (keep_upd (o := .ins cR dx [("number", .int 3)]))
    have sA2 := Same.made (C := cR) nx2 ndx2 (keep_upd (o := .ins cR dx2 [("number", .int 3)]))
    rw [decide_eq_true (rfl : Dv.obj 3 = Dv.obj 3)]
    refine iteT (fun x3 dx3 nx3 ndx3 nxd3 => ⟨x3, dx3, _, rfl, upd_same, rfl, fun x4 dx4 nx4 ndx4 nxd4 => ⟨x4, dx4, _, rfl, upd_same, rfl, .bi "abs", .bi "abs", ?_, ⟨x4, dx4, rfl, upd_same⟩, rfl, _, rfl, ?_⟩⟩)
    · exact ⟨x3, dx3, rfl, Same.made nx4 ndx4 keep_upd _ _ upd_same⟩
    have sA3 := Same.made (C := cB) nx3 ndx3 (keep_upd (o := .ins cB dx3 [("name", .str "abs")]))
    have sA4 := Same.made (C := cB) nx4 ndx4 (keep_upd (o := .ins cB dx4 [("name", .str "abs")]))
    rw [decide_eq_true (rfl : Dv.bi "abs" = Dv.bi "abs")]
    obtain ⟨ds, o, l, ts, e1, e2, e3⟩ := (((S4.same sA1).same sA2).same sA3).same sA4
    refine iteT ⟨_, rfl, sA, cS, ds, _, _, rfl, e1, T.clS, T.nS_things, lk_hit, t, _, rfl, .inl (SqL.of e2), rfl, ?_⟩
    have h8 : (ts.map V.ref).length = 8 := by
      rw [List.length_map, e3.len]
      rfl
    rw [h8]
    exact q _
end
end My
namespace My
open PySem L2 SX
theorem all_mk {l : PySem.W.OpenLaw} {w : World} {K : PySem.W.Frag} {h : Heap} {mg : Str → Option Value} {fa cR cB cP cT cI cK cC cD cV cU cS fR fB fP fT fI fK fC fD fV fU fS eR eB fM fA kE kO kH kI kY lC lB lD lP lS lV lK lT fL bA : Addr} (X : K.In h) (G : h.Ns mainGlobals mg) (hfa : mg "law" = some (.ref fa))
    {odIR anIR odIB anIB odIP anIP odIT anIT odII anII odIK anIK odIC anIC odID anID odIV anIV odIU anIU odIS anIS odER anER odEB anEB odSM anSM odSA anSA odfE anfE odfO anfO odfH anfH odfI anfI odfY anfY odlC anlC odlB anlB odlD anlD odlP anlP odlS anlS odlV anlV odlK anlK odlT anlT odlaw anlaw ddB : Option Addr} {slIR slIB slIP slIT slII slIK slIC slID slIV slIU slIS slER slEB slSM slSA slfE slfO slfH slfI slfY sllC sllB sllD sllP sllS sllV sllK sllT sllaw osB : Array (Option Value)} {ocIR kVIR dcIR pmIR cdIR ctIR ocIB kVIB dcIB pmIB cdIB ctIB ocIP kVIP dcIP pmIP cdIP ctIP ocIT kVIT dcIT pmIT cdIT ctIT ocII kVII dcII pmII cdII ctII ocIK kVIK dcIK pmIK cdIK ctIK ocIC kVIC dcIC pmIC cdIC ctIC ocID kVID dcID pmID cdID ctID ocIV kVIV dcIV pmIV cdIV ctIV ocIU kVIU dcIU pmIU cdIU ctIU ocIS kVIS dcIS pmIS cdIS ctIS ocER kVER dcER pmER cdER ctER ocEB kVEB dcEB pmEB cdEB ctEB ocSM kVSM dcSM pmSM cdSM ctSM ocSA kVSA dcSA pmSA cdSA ctSA ocfE kVfE dcfE pmfE cdfE ctfE ocfO kVfO dcfO pmfO cdfO ctfO ocfH kVfH dcfH pmfH cdfH ctfH ocfI kVfI dcfI pmfI cdfI ctfI ocfY kVfY dcfY pmfY cdfY ctfY oclC kVlC dclC pmlC cdlC ctlC oclB kVlB dclB pmlB cdlB ctlB oclD kVlD dclD pmlD cdlD ctlD oclP kVlP dclP pmlP cdlP ctlP oclS kVlS dclS pmlS cdlS ctlS oclV kVlV dclV pmlV cdlV ctlV oclK kVlK dclK pmlK cdlK ctlK oclT kVlT dclT pmlT cdlT ctlT oclaw kVlaw dclaw pmlaw cdlaw ctlaw : Value} {itsB : Array Value} {nnB : Nat}
    (uR : PySem.W.nsIn K mainGlobals "Ref" = some (some (.ref cR))) (mkR : PySem.W.makesIn K cR = true) (kcR : PySem.W.keepIn K (.ref cR) = true)
    (uB : PySem.W.nsIn K mainGlobals "Builtin" = some (some (.ref cB))) (mkB : PySem.W.makesIn K cB = true) (kcB : PySem.W.keepIn K (.ref cB) = true)
    (uP : PySem.W.nsIn K mainGlobals "Parts" = some (some (.ref cP))) (mkP : PySem.W.makesIn K cP = true) (kcP : PySem.W.keepIn K (.ref cP) = true)
    (uT : PySem.W.nsIn K mainGlobals "Table" = some (some (.ref cT))) (mkT : PySem.W.makesIn K cT = true) (kcT : PySem.W.keepIn K (.ref cT) = true)
    (uI : PySem.W.nsIn K mainGlobals "Instance" = some (some (.ref cI))) (mkI : PySem.W.makesIn K cI = true) (kcI : PySem.W.keepIn K (.ref cI) = true)
    (uK : PySem.W.nsIn K mainGlobals "Kin" = some (some (.ref cK))) (mkK : PySem.W.makesIn K cK = true) (kcK : PySem.W.keepIn K (.ref cK) = true)
    (uC : PySem.W.nsIn K mainGlobals "Closure" = some (some (.ref cC))) (mkC : PySem.W.makesIn K cC = true) (kcC : PySem.W.keepIn K (.ref cC) = true)
    (uD : PySem.W.nsIn K mainGlobals "Bound" = some (some (.ref cD))) (mkD : PySem.W.makesIn K cD = true) (kcD : PySem.W.keepIn K (.ref cD) = true)
    (uV : PySem.W.nsIn K mainGlobals "Variable" = some (some (.ref cV))) (mkV : PySem.W.makesIn K cV = true) (kcV : PySem.W.keepIn K (.ref cV) = true)
    (uU : PySem.W.nsIn K mainGlobals "Cursor" = some (some (.ref cU))) (mkU : PySem.W.makesIn K cU = true) (kcU : PySem.W.keepIn K (.ref cU) = true)
    (uS : PySem.W.nsIn K mainGlobals "Store" = some (some (.ref cS))) (mkS : PySem.W.makesIn K cS = true) (kcS : PySem.W.keepIn K (.ref cS) = true)
    (aIR : PySem.W.findIn K (.ref cR) "__init__" = some (some (.ref fR))) (iIR : PySem.W.isFn K (.ref fR) = true)
    (lIR : K.lookup fR = some ⟨ocIR, odIR, .func (PySem.W.fnOf "__init__" "Ref.__init__" (defArgs sIR) (defBody sIR) (defScope sIR) .none kVIR dcIR pmIR anIR cdIR ctIR), slIR⟩) (cIR : PySem.W.codeIn K cdIR "Ref.__init__" = true) (kIR : PySem.W.keepIn K (.ref fR) = true)
    (aIB : PySem.W.findIn K (.ref cB) "__init__" = some (some (.ref fB))) (iIB : PySem.W.isFn K (.ref fB) = true)
    (lIB : K.lookup fB = some ⟨ocIB, odIB, .func (PySem.W.fnOf "__init__" "Builtin.__init__" (defArgs sIB) (defBody sIB) (defScope sIB) .none kVIB dcIB pmIB anIB cdIB ctIB), slIB⟩) (cIB : PySem.W.codeIn K cdIB "Builtin.__init__" = true) (kIB : PySem.W.keepIn K (.ref fB) = true)
    (aIP : PySem.W.findIn K (.ref cP) "__init__" = some (some (.ref fP))) (iIP : PySem.W.isFn K (.ref fP) = true)
    (lIP : K.lookup fP = some ⟨ocIP, odIP, .func (PySem.W.fnOf "__init__" "Parts.__init__" (defArgs sIP) (defBody sIP) (defScope sIP) .none kVIP dcIP pmIP anIP cdIP ctIP), slIP⟩) (cIP : PySem.W.codeIn K cdIP "Parts.__init__" = true) (kIP : PySem.W.keepIn K (.ref fP) = true)
    (aIT : PySem.W.findIn K (.ref cT) "__init__" = some (some (.ref fT))) (iIT : PySem.W.isFn K (.ref fT) = true)
    (lIT : K.lookup fT = some ⟨ocIT, odIT, .func (PySem.W.fnOf "__init__" "Table.__init__" (defArgs sIT) (defBody sIT) (defScope sIT) .none kVIT dcIT pmIT anIT cdIT ctIT), slIT⟩) (cIT : PySem.W.codeIn K cdIT "Table.__init__" = true) (kIT : PySem.W.keepIn K (.ref fT) = true)
    (aII : PySem.W.findIn K (.ref cI) "__init__" = some (some (.ref fI))) (iII : PySem.W.isFn K (.ref fI) = true)
    (lII : K.lookup fI = some ⟨ocII, odII, .func (PySem.W.fnOf "__init__" "Instance.__init__" (defArgs sII) (defBody sII) (defScope sII) .none kVII dcII pmII anII cdII ctII), slII⟩) (cII : PySem.W.codeIn K cdII "Instance.__init__" = true) (kII : PySem.W.keepIn K (.ref fI) = true)
    (aIK : PySem.W.findIn K (.ref cK) "__init__" = some (some (.ref fK))) (iIK : PySem.W.isFn K (.ref fK) = true)
    (lIK : K.lookup fK = some ⟨ocIK, odIK, .func (PySem.W.fnOf "__init__" "Kin.__init__" (defArgs sIK) (defBody sIK) (defScope sIK) .none kVIK dcIK pmIK anIK cdIK ctIK), slIK⟩) (cIK : PySem.W.codeIn K cdIK "Kin.__init__" = true) (kIK : PySem.W.keepIn K (.ref fK) = true)
    (aIC : PySem.W.findIn K (.ref cC) "__init__" = some (some (.ref fC))) (iIC : PySem.W.isFn K (.ref fC) = true)
    (lIC : K.lookup fC = some ⟨ocIC, odIC, .func (PySem.W.fnOf "__init__" "Closure.__init__" (defArgs sIC) (defBody sIC) (defScope sIC) .none kVIC dcIC pmIC anIC cdIC ctIC), slIC⟩) (cIC : PySem.W.codeIn K cdIC "Closure.__init__" = true) (kIC : PySem.W.keepIn K (.ref fC) = true)
    (aID : PySem.W.findIn K (.ref cD) "__init__" = some (some (.ref fD))) (iID : PySem.W.isFn K (.ref fD) = true)
    (lID : K.lookup fD = some ⟨ocID, odID, .func (PySem.W.fnOf "__init__" "Bound.__init__" (defArgs sID) (defBody sID) (defScope sID) .none kVID dcID pmID anID cdID ctID), slID⟩) (cID : PySem.W.codeIn K cdID "Bound.__init__" = true) (kID : PySem.W.keepIn K (.ref fD) = true)
    (aIV : PySem.W.findIn K (.ref cV) "__init__" = some (some (.ref fV))) (iIV : PySem.W.isFn K (.ref fV) = true)
    (lIV : K.lookup fV = some ⟨ocIV, odIV, .func (PySem.W.fnOf "__init__" "Variable.__init__" (defArgs sIV) (defBody sIV) (defScope sIV) .none kVIV dcIV pmIV anIV cdIV ctIV), slIV⟩) (cIV : PySem.W.codeIn K cdIV "Variable.__init__" = true) (kIV : PySem.W.keepIn K (.ref fV) = true)
    (aIU : PySem.W.findIn K (.ref cU) "__init__" = some (some (.ref fU))) (iIU : PySem.W.isFn K (.ref fU) = true)
    (lIU : K.lookup fU = some ⟨ocIU, odIU, .func (PySem.W.fnOf "__init__" "Cursor.__init__" (defArgs sIU) (defBody sIU) (defScope sIU) .none kVIU dcIU pmIU anIU cdIU ctIU), slIU⟩) (cIU : PySem.W.codeIn K cdIU "Cursor.__init__" = true) (kIU : PySem.W.keepIn K (.ref fU) = true)
    (aIS : PySem.W.findIn K (.ref cS) "__init__" = some (some (.ref fS))) (iIS : PySem.W.isFn K (.ref fS) = true)
    (lIS : K.lookup fS = some ⟨ocIS, odIS, .func (PySem.W.fnOf "__init__" "Store.__init__" (defArgs sIS) (defBody sIS) (defScope sIS) .none kVIS dcIS pmIS anIS cdIS ctIS), slIS⟩) (cIS : PySem.W.codeIn K cdIS "Store.__init__" = true) (kIS : PySem.W.keepIn K (.ref fS) = true)
    (aER : PySem.W.findIn K (.ref cR) "__eq__" = some (some (.ref eR))) (iER : PySem.W.isFn K (.ref eR) = true)
    (lER : K.lookup eR = some ⟨ocER, odER, .func (PySem.W.fnOf "__eq__" "Ref.__eq__" (defArgs sER) (defBody sER) (defScope sER) .none kVER dcER pmER anER cdER ctER), slER⟩) (cER : PySem.W.codeIn K cdER "Ref.__eq__" = true) (kER : PySem.W.keepIn K (.ref eR) = true)
    (aEB : PySem.W.findIn K (.ref cB) "__eq__" = some (some (.ref eB))) (iEB : PySem.W.isFn K (.ref eB) = true)
    (lEB : K.lookup eB = some ⟨ocEB, odEB, .func (PySem.W.fnOf "__eq__" "Builtin.__eq__" (defArgs sEB) (defBody sEB) (defScope sEB) .none kVEB dcEB pmEB anEB cdEB ctEB), slEB⟩) (cEB : PySem.W.codeIn K cdEB "Builtin.__eq__" = true) (kEB : PySem.W.keepIn K (.ref eB) = true)
    (aSM : PySem.W.findIn K (.ref cS) "make" = some (some (.ref fM))) (iSM : PySem.W.isFn K (.ref fM) = true)
    (lSM : K.lookup fM = some ⟨ocSM, odSM, .func (PySem.W.fnOf "make" "Store.make" (defArgs sMake) (defBody sMake) (defScope sMake) .none kVSM dcSM pmSM anSM cdSM ctSM), slSM⟩) (cSM : PySem.W.codeIn K cdSM "Store.make" = true) (kSM : PySem.W.keepIn K (.ref fM) = true)
    (aSA : PySem.W.findIn K (.ref cS) "at" = some (some (.ref fA))) (iSA : PySem.W.isFn K (.ref fA) = true)
    (lSA : K.lookup fA = some ⟨ocSA, odSA, .func (PySem.W.fnOf "at" "Store.at" (defArgs sAt) (defBody sAt) (defScope sAt) .none kVSA dcSA pmSA anSA cdSA ctSA), slSA⟩) (cSA : PySem.W.codeIn K cdSA "Store.at" = true) (kSA : PySem.W.keepIn K (.ref fA) = true)
    (afE : PySem.W.nsIn K mainGlobals "equal" = some (some (.ref kE)))
    (lfE : K.lookup kE = some ⟨ocfE, odfE, .func (PySem.W.fnOf "equal" "equal" (defArgs sEqual) (defBody sEqual) (defScope sEqual) .none kVfE dcfE pmfE anfE cdfE ctfE), slfE⟩) (cfE : PySem.W.codeIn K cdfE "equal" = true) (kfE : PySem.W.keepIn K (.ref kE) = true)
    (afO : PySem.W.nsIn K mainGlobals "kind_of" = some (some (.ref kO)))
    (lfO : K.lookup kO = some ⟨ocfO, odfO, .func (PySem.W.fnOf "kind_of" "kind_of" (defArgs sKindOf) (defBody sKindOf) (defScope sKindOf) .none kVfO dcfO pmfO anfO cdfO ctfO), slfO⟩) (cfO : PySem.W.codeIn K cdfO "kind_of" = true) (kfO : PySem.W.keepIn K (.ref kO) = true)
    (afH : PySem.W.nsIn K mainGlobals "kind_of_thing" = some (some (.ref kH)))
    (lfH : K.lookup kH = some ⟨ocfH, odfH, .func (PySem.W.fnOf "kind_of_thing" "kind_of_thing" (defArgs sKindThing) (defBody sKindThing) (defScope sKindThing) .none kVfH dcfH pmfH anfH cdfH ctfH), slfH⟩) (cfH : PySem.W.codeIn K cdfH "kind_of_thing" = true) (kfH : PySem.W.keepIn K (.ref kH) = true)
    (afI : PySem.W.nsIn K mainGlobals "is_true" = some (some (.ref kI)))
    (lfI : K.lookup kI = some ⟨ocfI, odfI, .func (PySem.W.fnOf "is_true" "is_true" (defArgs sIsTrue) (defBody sIsTrue) (defScope sIsTrue) .none kVfI dcfI pmfI anfI cdfI ctfI), slfI⟩) (cfI : PySem.W.codeIn K cdfI "is_true" = true) (kfI : PySem.W.keepIn K (.ref kI) = true)
    (afY : PySem.W.nsIn K mainGlobals "is_key" = some (some (.ref kY)))
    (lfY : K.lookup kY = some ⟨ocfY, odfY, .func (PySem.W.fnOf "is_key" "is_key" (defArgs sIsKey) (defBody sIsKey) (defScope sIsKey) .none kVfY dcfY pmfY anfY cdfY ctfY), slfY⟩) (cfY : PySem.W.codeIn K cdfY "is_key" = true) (kfY : PySem.W.keepIn K (.ref kY) = true)
    (alC : PySem.W.nsIn K mainGlobals "_law_cell" = some (some (.ref lC)))
    (llC : K.lookup lC = some ⟨oclC, odlC, .func (PySem.W.fnOf "_law_cell" "_law_cell" (defArgs sCell) (defBody sCell) (defScope sCell) .none kVlC dclC pmlC anlC cdlC ctlC), sllC⟩) (clC : PySem.W.codeIn K cdlC "_law_cell" = true) (klC : PySem.W.keepIn K (.ref lC) = true)
    (alB : PySem.W.nsIn K mainGlobals "_law_begin" = some (some (.ref lB)))
    (llB : K.lookup lB = some ⟨oclB, odlB, .func (PySem.W.fnOf "_law_begin" "_law_begin" (defArgs sBegin) (defBody sBegin) (defScope sBegin) .none kVlB dclB pmlB anlB cdlB ctlB), sllB⟩) (clB : PySem.W.codeIn K cdlB "_law_begin" = true) (klB : PySem.W.keepIn K (.ref lB) = true)
    (alD : PySem.W.nsIn K mainGlobals "_law_draw" = some (some (.ref lD)))
    (llD : K.lookup lD = some ⟨oclD, odlD, .func (PySem.W.fnOf "_law_draw" "_law_draw" (defArgs sDraw) (defBody sDraw) (defScope sDraw) .none kVlD dclD pmlD anlD cdlD ctlD), sllD⟩) (clD : PySem.W.codeIn K cdlD "_law_draw" = true) (klD : PySem.W.keepIn K (.ref lD) = true)
    (alP : PySem.W.nsIn K mainGlobals "_law_pick" = some (some (.ref lP)))
    (llP : K.lookup lP = some ⟨oclP, odlP, .func (PySem.W.fnOf "_law_pick" "_law_pick" (defArgs sPick) (defBody sPick) (defScope sPick) .none kVlP dclP pmlP anlP cdlP ctlP), sllP⟩) (clP : PySem.W.codeIn K cdlP "_law_pick" = true) (klP : PySem.W.keepIn K (.ref lP) = true)
    (alS : PySem.W.nsIn K mainGlobals "_law_store" = some (some (.ref lS)))
    (llS : K.lookup lS = some ⟨oclS, odlS, .func (PySem.W.fnOf "_law_store" "_law_store" (defArgs sLawStore) (defBody sLawStore) (defScope sLawStore) .none kVlS dclS pmlS anlS cdlS ctlS), sllS⟩) (clS : PySem.W.codeIn K cdlS "_law_store" = true) (klS : PySem.W.keepIn K (.ref lS) = true)
    (alV : PySem.W.nsIn K mainGlobals "_law_value" = some (some (.ref lV)))
    (llV : K.lookup lV = some ⟨oclV, odlV, .func (PySem.W.fnOf "_law_value" "_law_value" (defArgs sLawValue) (defBody sLawValue) (defScope sLawValue) .none kVlV dclV pmlV anlV cdlV ctlV), sllV⟩) (clV : PySem.W.codeIn K cdlV "_law_value" = true) (klV : PySem.W.keepIn K (.ref lV) = true)
    (alK : PySem.W.nsIn K mainGlobals "_law_kind" = some (some (.ref lK)))
    (llK : K.lookup lK = some ⟨oclK, odlK, .func (PySem.W.fnOf "_law_kind" "_law_kind" (defArgs sLawKind) (defBody sLawKind) (defScope sLawKind) .none kVlK dclK pmlK anlK cdlK ctlK), sllK⟩) (clK : PySem.W.codeIn K cdlK "_law_kind" = true) (klK : PySem.W.keepIn K (.ref lK) = true)
    (alT : PySem.W.nsIn K mainGlobals "_law_two" = some (some (.ref lT)))
    (llT : K.lookup lT = some ⟨oclT, odlT, .func (PySem.W.fnOf "_law_two" "_law_two" (defArgs sLawTwo) (defBody sLawTwo) (defScope sLawTwo) .none kVlT dclT pmlT anlT cdlT ctlT), sllT⟩) (clT : PySem.W.codeIn K cdlT "_law_two" = true) (klT : PySem.W.keepIn K (.ref lT) = true)
    (alaw : PySem.W.nsIn K mainGlobals "law" = some (some (.ref fL)))
    (llaw : K.lookup fL = some ⟨oclaw, odlaw, .func (PySem.W.fnOf "law" "law" (defArgs sLaw) (defBody sLaw) (defScope sLaw) .none kVlaw dclaw pmlaw anlaw cdlaw ctlaw), sllaw⟩) (claw : PySem.W.codeIn K cdlaw "law" = true) (klaw : PySem.W.keepIn K (.ref fL) = true)
    (zrange : PySem.W.nsIn K mainGlobals "range" = some none)
    (zlen : PySem.W.nsIn K mainGlobals "len" = some none)
    (zint : PySem.W.nsIn K mainGlobals "int" = some none)
    (zstr : PySem.W.nsIn K mainGlobals "str" = some none)
    (zbool : PySem.W.nsIn K mainGlobals "bool" = some none)
    (zisinstance : PySem.W.nsIn K mainGlobals "isinstance" = some none)
    (zlist : PySem.W.nsIn K mainGlobals "list" = some none)
    (zabs : PySem.W.nsIn K mainGlobals "abs" = some none)
    (zmin : PySem.W.nsIn K mainGlobals "min" = some none)
    (zmax : PySem.W.nsIn K mainGlobals "max" = some none)
    (tpgR : PySem.W.plainGet K cR Str.empty = true)
    (thdR : PySem.W.hasDictIn K cR = true)
    (tpoR : PySem.W.plainOver K cR = true)
    (tsaR : PySem.W.findIn K (.ref cR) "__setattr__" = some (some (.builtin "object.__setattr__")))
    (tnR_number : PySem.W.findIn K (.ref cR) "number" = some none)
    (thaR : PySem.W.findIn K (.ref cR) "__class__" = some (some (.builtin "object.__class__")))
    (thmR : PySem.W.mroIn K cR (.type "object") = some true)
    (tpgB : PySem.W.plainGet K cB Str.empty = true)
    (thdB : PySem.W.hasDictIn K cB = true)
    (tpoB : PySem.W.plainOver K cB = true)
    (tsaB : PySem.W.findIn K (.ref cB) "__setattr__" = some (some (.builtin "object.__setattr__")))
    (tnB_name : PySem.W.findIn K (.ref cB) "name" = some none)
    (thaB : PySem.W.findIn K (.ref cB) "__class__" = some (some (.builtin "object.__class__")))
    (thmB : PySem.W.mroIn K cB (.type "object") = some true)
    (tpgP : PySem.W.plainGet K cP Str.empty = true)
    (thdP : PySem.W.hasDictIn K cP = true)
    (tpoP : PySem.W.plainOver K cP = true)
    (tsaP : PySem.W.findIn K (.ref cP) "__setattr__" = some (some (.builtin "object.__setattr__")))
    (tnP_held : PySem.W.findIn K (.ref cP) "held" = some none)
    (thaP : PySem.W.findIn K (.ref cP) "__class__" = some (some (.builtin "object.__class__")))
    (thmP : PySem.W.mroIn K cP (.type "object") = some true)
    (tpgT : PySem.W.plainGet K cT Str.empty = true)
    (thdT : PySem.W.hasDictIn K cT = true)
    (tpoT : PySem.W.plainOver K cT = true)
    (tsaT : PySem.W.findIn K (.ref cT) "__setattr__" = some (some (.builtin "object.__setattr__")))
    (tnT__entries : PySem.W.findIn K (.ref cT) "_entries" = some none)
    (thaT : PySem.W.findIn K (.ref cT) "__class__" = some (some (.builtin "object.__class__")))
    (thmT : PySem.W.mroIn K cT (.type "object") = some true)
    (tpgI : PySem.W.plainGet K cI Str.empty = true)
    (thdI : PySem.W.hasDictIn K cI = true)
    (tpoI : PySem.W.plainOver K cI = true)
    (tsaI : PySem.W.findIn K (.ref cI) "__setattr__" = some (some (.builtin "object.__setattr__")))
    (tnI_owner : PySem.W.findIn K (.ref cI) "owner" = some none)
    (tnI_named : PySem.W.findIn K (.ref cI) "named" = some none)
    (thaI : PySem.W.findIn K (.ref cI) "__class__" = some (some (.builtin "object.__class__")))
    (thmI : PySem.W.mroIn K cI (.type "object") = some true)
    (tpgK : PySem.W.plainGet K cK Str.empty = true)
    (thdK : PySem.W.hasDictIn K cK = true)
    (tpoK : PySem.W.plainOver K cK = true)
    (tsaK : PySem.W.findIn K (.ref cK) "__setattr__" = some (some (.builtin "object.__setattr__")))
    (tnK_name : PySem.W.findIn K (.ref cK) "name" = some none)
    (tnK_parent : PySem.W.findIn K (.ref cK) "parent" = some none)
    (tnK_methods : PySem.W.findIn K (.ref cK) "methods" = some none)
    (thaK : PySem.W.findIn K (.ref cK) "__class__" = some (some (.builtin "object.__class__")))
    (thmK : PySem.W.mroIn K cK (.type "object") = some true)
    (tpgC : PySem.W.plainGet K cC Str.empty = true)
    (thdC : PySem.W.hasDictIn K cC = true)
    (tpoC : PySem.W.plainOver K cC = true)
    (tsaC : PySem.W.findIn K (.ref cC) "__setattr__" = some (some (.builtin "object.__setattr__")))
    (tnC_number : PySem.W.findIn K (.ref cC) "number" = some none)
    (tnC_wanted : PySem.W.findIn K (.ref cC) "wanted" = some none)
    (tnC_scope : PySem.W.findIn K (.ref cC) "scope" = some none)
    (thaC : PySem.W.findIn K (.ref cC) "__class__" = some (some (.builtin "object.__class__")))
    (thmC : PySem.W.mroIn K cC (.type "object") = some true)
    (tpgD : PySem.W.plainGet K cD Str.empty = true)
    (thdD : PySem.W.hasDictIn K cD = true)
    (tpoD : PySem.W.plainOver K cD = true)
    (tsaD : PySem.W.findIn K (.ref cD) "__setattr__" = some (some (.builtin "object.__setattr__")))
    (tnD_owner : PySem.W.findIn K (.ref cD) "owner" = some none)
    (tnD_function : PySem.W.findIn K (.ref cD) "function" = some none)
    (thaD : PySem.W.findIn K (.ref cD) "__class__" = some (some (.builtin "object.__class__")))
    (thmD : PySem.W.mroIn K cD (.type "object") = some true)
    (tpgV : PySem.W.plainGet K cV Str.empty = true)
    (thdV : PySem.W.hasDictIn K cV = true)
    (tpoV : PySem.W.plainOver K cV = true)
    (tsaV : PySem.W.findIn K (.ref cV) "__setattr__" = some (some (.builtin "object.__setattr__")))
    (tnV_value : PySem.W.findIn K (.ref cV) "value" = some none)
    (thaV : PySem.W.findIn K (.ref cV) "__class__" = some (some (.builtin "object.__class__")))
    (thmV : PySem.W.mroIn K cV (.type "object") = some true)
    (tpgU : PySem.W.plainGet K cU Str.empty = true)
    (thdU : PySem.W.hasDictIn K cU = true)
    (tpoU : PySem.W.plainOver K cU = true)
    (tsaU : PySem.W.findIn K (.ref cU) "__setattr__" = some (some (.builtin "object.__setattr__")))
    (tnU_rest : PySem.W.findIn K (.ref cU) "rest" = some none)
    (thaU : PySem.W.findIn K (.ref cU) "__class__" = some (some (.builtin "object.__class__")))
    (thmU : PySem.W.mroIn K cU (.type "object") = some true)
    (tpgS : PySem.W.plainGet K cS Str.empty = true)
    (thdS : PySem.W.hasDictIn K cS = true)
    (tpoS : PySem.W.plainOver K cS = true)
    (tsaS : PySem.W.findIn K (.ref cS) "__setattr__" = some (some (.builtin "object.__setattr__")))
    (tnS_things : PySem.W.findIn K (.ref cS) "things" = some none)
    (tnS_output : PySem.W.findIn K (.ref cS) "output" = some none)
    (tnS_lines : PySem.W.findIn K (.ref cS) "lines" = some none)
    (tnS_taken : PySem.W.findIn K (.ref cS) "taken" = some none)
    (thn : PySem.W.specialIn K (.builtin "object.__class__") "__get__" = some (some (.builtin "getset_descriptor.__get__")))
    (tht : PySem.W.takesIn K (.builtin "object.__class__") = some true)
    (tqNoneTypeR : PySem.W.kitOne K (.type "NoneType") (.ref cR) = some false)
    (tqNoneTypeB : PySem.W.kitOne K (.type "NoneType") (.ref cB) = some false)
    (tqboolR : PySem.W.kitOne K (.type "bool") (.ref cR) = some false)
    (tqboolB : PySem.W.kitOne K (.type "bool") (.ref cB) = some false)
    (tqintR : PySem.W.kitOne K (.type "int") (.ref cR) = some false)
    (tqintB : PySem.W.kitOne K (.type "int") (.ref cB) = some false)
    (tqstrR : PySem.W.kitOne K (.type "str") (.ref cR) = some false)
    (tqstrB : PySem.W.kitOne K (.type "str") (.ref cB) = some false)
    (tqRbool : PySem.W.kitOne K (.ref cR) (.type "bool") = some false)
    (tqRint : PySem.W.kitOne K (.ref cR) (.type "int") = some false)
    (tqRstr : PySem.W.kitOne K (.ref cR) (.type "str") = some false)
    (tsuRNoneType : PySem.W.subIn K (.ref cR) (.type "NoneType") = some false)
    (tnfRNoneType : PySem.W.notFirst K cR (.type "NoneType") = true)
    (tsuRint : PySem.W.subIn K (.ref cR) (.type "int") = some false)
    (tnfRint : PySem.W.notFirst K cR (.type "int") = true)
    (tsuRstr : PySem.W.subIn K (.ref cR) (.type "str") = some false)
    (tnfRstr : PySem.W.notFirst K cR (.type "str") = true)
    (tqBbool : PySem.W.kitOne K (.ref cB) (.type "bool") = some false)
    (tqBint : PySem.W.kitOne K (.ref cB) (.type "int") = some false)
    (tqBstr : PySem.W.kitOne K (.ref cB) (.type "str") = some false)
    (tsuBNoneType : PySem.W.subIn K (.ref cB) (.type "NoneType") = some false)
    (tnfBNoneType : PySem.W.notFirst K cB (.type "NoneType") = true)
    (tsuBint : PySem.W.subIn K (.ref cB) (.type "int") = some false)
    (tnfBint : PySem.W.notFirst K cB (.type "int") = true)
    (tsuBstr : PySem.W.subIn K (.ref cB) (.type "str") = some false)
    (tnfBstr : PySem.W.notFirst K cB (.type "str") = true)
    (tqRB : PySem.W.kitOne K (.ref cR) (.ref cB) = some false)
    (tqBR : PySem.W.kitOne K (.ref cB) (.ref cR) = some false)
    (tnfRB : PySem.W.notFirst K cR (.ref cB) = true)
    (tnfBR : PySem.W.notFirst K cB (.ref cR) = true)
    (tqKP : PySem.W.kitOne K (.ref cK) (.ref cP) = some false)
    (tqKT : PySem.W.kitOne K (.ref cK) (.ref cT) = some false)
    (tqKI : PySem.W.kitOne K (.ref cK) (.ref cI) = some false)
    (tqPT : PySem.W.kitOne K (.ref cP) (.ref cT) = some false)
    (tqPI : PySem.W.kitOne K (.ref cP) (.ref cI) = some false)
    (tqPK : PySem.W.kitOne K (.ref cP) (.ref cK) = some false)
    (tqTP : PySem.W.kitOne K (.ref cT) (.ref cP) = some false)
    (tqTI : PySem.W.kitOne K (.ref cT) (.ref cI) = some false)
    (tqTK : PySem.W.kitOne K (.ref cT) (.ref cK) = some false)
    (tqIP : PySem.W.kitOne K (.ref cI) (.ref cP) = some false)
    (tqIT : PySem.W.kitOne K (.ref cI) (.ref cT) = some false)
    (tqIK : PySem.W.kitOne K (.ref cI) (.ref cK) = some false)
    (tqCP : PySem.W.kitOne K (.ref cC) (.ref cP) = some false)
    (tqCT : PySem.W.kitOne K (.ref cC) (.ref cT) = some false)
    (tqCI : PySem.W.kitOne K (.ref cC) (.ref cI) = some false)
    (tqCK : PySem.W.kitOne K (.ref cC) (.ref cK) = some false)
    (tqDP : PySem.W.kitOne K (.ref cD) (.ref cP) = some false)
    (tqDT : PySem.W.kitOne K (.ref cD) (.ref cT) = some false)
    (tqDI : PySem.W.kitOne K (.ref cD) (.ref cI) = some false)
    (tqDK : PySem.W.kitOne K (.ref cD) (.ref cK) = some false)
    (tqVP : PySem.W.kitOne K (.ref cV) (.ref cP) = some false)
    (tqVT : PySem.W.kitOne K (.ref cV) (.ref cT) = some false)
    (tqVI : PySem.W.kitOne K (.ref cV) (.ref cI) = some false)
    (tqVK : PySem.W.kitOne K (.ref cV) (.ref cK) = some false)
    (tqUP : PySem.W.kitOne K (.ref cU) (.ref cP) = some false)
    (tqUT : PySem.W.kitOne K (.ref cU) (.ref cT) = some false)
    (tqUI : PySem.W.kitOne K (.ref cU) (.ref cI) = some false)
    (tqUK : PySem.W.kitOne K (.ref cU) (.ref cK) = some false)
    (sB : PySem.W.nsIn K mainGlobals "BUILTINS" = some (some (.ref bA))) (lBT : K.lookup bA = some ⟨.type "tuple", ddB, .seq itsB nnB, osB⟩) (vB : Vals bltV itsB.toList) (nB : itsB.size ≤ sizeLine)
    : ∃ fd : FuncData, (∀ (s : Shared) (v : Value), BindsTo s fd ⟨[v], []⟩ [("script", v)]) ∧ ∀ base : Heap, K.In base → base.Ns mainGlobals mg → FnOk l.prog w K mg base CX0 6 fa fd ["script"] (spLaw K) := by
  have e := hfa.symm.trans (PySem.W.mg_of X G alaw)
  cases e
  have B : Bl mg := ⟨PySem.W.mg_none_of X G zrange, PySem.W.mg_none_of X G zlen, PySem.W.mg_none_of X G zint, PySem.W.mg_none_of X G zstr, PySem.W.mg_none_of X G zbool, PySem.W.mg_none_of X G zisinstance, PySem.W.mg_none_of X G zlist, PySem.W.mg_none_of X G zabs, PySem.W.mg_none_of X G zmin, PySem.W.mg_none_of X G zmax⟩
  have FIR := fun_mk (st := sIR) lIR cIR kIR
  have bIR := FIR.binds (ps := ["self", "number"]) fun _ _ _ _ _ _ us hl => match us, hl with | [_, _], _ => rfl
  have FIB := fun_mk (st := sIB) lIB cIB kIB
  have bIB := FIB.binds (ps := ["self", "name"]) fun _ _ _ _ _ _ us hl => match us, hl with | [_, _], _ => rfl
  have FIP := fun_mk (st := sIP) lIP cIP kIP
  have bIP := FIP.binds (ps := ["self", "held"]) fun _ _ _ _ _ _ us hl => match us, hl with | [_, _], _ => rfl
  have FIT := fun_mk (st := sIT) lIT cIT kIT
  have bIT := FIT.binds (ps := ["self"]) fun _ _ _ _ _ _ us hl => match us, hl with | [_], _ => rfl
  have FII := fun_mk (st := sII) lII cII kII
  have bII := FII.binds (ps := ["self", "owner"]) fun _ _ _ _ _ _ us hl => match us, hl with | [_, _], _ => rfl
  have FIK := fun_mk (st := sIK) lIK cIK kIK
  have bIK := FIK.binds (ps := ["self", "name", "parent"]) fun _ _ _ _ _ _ us hl => match us, hl with | [_, _, _], _ => rfl
  have FIC := fun_mk (st := sIC) lIC cIC kIC
  have bIC := FIC.binds (ps := ["self", "number", "wanted", "scope"]) fun _ _ _ _ _ _ us hl => match us, hl with | [_, _, _, _], _ => rfl
  have FID := fun_mk (st := sID) lID cID kID
  have bID := FID.binds (ps := ["self", "owner", "function"]) fun _ _ _ _ _ _ us hl => match us, hl with | [_, _, _], _ => rfl
  have FIV := fun_mk (st := sIV) lIV cIV kIV
  have bIV := FIV.binds (ps := ["self", "value"]) fun _ _ _ _ _ _ us hl => match us, hl with | [_, _], _ => rfl
  have FIU := fun_mk (st := sIU) lIU cIU kIU
  have bIU := FIU.binds (ps := ["self", "rest"]) fun _ _ _ _ _ _ us hl => match us, hl with | [_, _], _ => rfl
  have FIS := fun_mk (st := sIS) lIS cIS kIS
  have bIS := FIS.binds (ps := ["self", "lines"]) fun _ _ _ _ _ _ us hl => match us, hl with | [_, _], _ => rfl
  have FER := fun_mk (st := sER) lER cER kER
  have bER := FER.binds (ps := ["self", "other"]) fun _ _ _ _ _ _ us hl => match us, hl with | [_, _], _ => rfl
  have FEB := fun_mk (st := sEB) lEB cEB kEB
  have bEB := FEB.binds (ps := ["self", "other"]) fun _ _ _ _ _ _ us hl => match us, hl with | [_, _], _ => rfl
  have FSM := fun_mk (st := sMake) lSM cSM kSM
  have bSM := FSM.binds (ps := ["self", "thing"]) fun _ _ _ _ _ _ us hl => match us, hl with | [_, _], _ => rfl
  have FSA := fun_mk (st := sAt) lSA cSA kSA
  have bSA := FSA.binds (ps := ["self", "ref"]) fun _ _ _ _ _ _ us hl => match us, hl with | [_, _], _ => rfl
  have FfE := fun_mk (st := sEqual) lfE cfE kfE
  have bfE := FfE.binds (ps := ["x", "y"]) fun _ _ _ _ _ _ us hl => match us, hl with | [_, _], _ => rfl
  have FfO := fun_mk (st := sKindOf) lfO cfO kfO
  have bfO := FfO.binds (ps := ["store", "value"]) fun _ _ _ _ _ _ us hl => match us, hl with | [_, _], _ => rfl
  have FfH := fun_mk (st := sKindThing) lfH cfH kfH
  have bfH := FfH.binds (ps := ["thing"]) fun _ _ _ _ _ _ us hl => match us, hl with | [_], _ => rfl
  have FfI := fun_mk (st := sIsTrue) lfI cfI kfI
  have bfI := FfI.binds (ps := ["value"]) fun _ _ _ _ _ _ us hl => match us, hl with | [_], _ => rfl
  have FfY := fun_mk (st := sIsKey) lfY cfY kfY
  have bfY := FfY.binds (ps := ["value"]) fun _ _ _ _ _ _ us hl => match us, hl with | [_], _ => rfl
  have FlC := fun_mk (st := sCell) llC clC klC
  have blC := FlC.binds (ps := ["script", "k"]) fun _ _ _ _ _ _ us hl => match us, hl with | [_, _], _ => rfl
  have FlB := fun_mk (st := sBegin) llB clB klB
  have blB := FlB.binds (ps := ["script", "k"]) fun _ _ _ _ _ _ us hl => match us, hl with | [_, _], _ => rfl
  have FlD := fun_mk (st := sDraw) llD clD klD
  have blD := FlD.binds (ps := ["state", "many"]) fun _ _ _ _ _ _ us hl => match us, hl with | [_, _], _ => rfl
  have FlP := fun_mk (st := sPick) llP clP klP
  have blP := FlP.binds (ps := ["state", "row"]) fun _ _ _ _ _ _ us hl => match us, hl with | [_, _], _ => rfl
  have FlS := fun_mk (st := sLawStore) llS clS klS
  have blS := FlS.binds (ps := []) fun _ _ _ _ _ _ us hl => match us, hl with | [], _ => rfl
  have FlV := fun_mk (st := sLawValue) llV clV klV
  have blV := FlV.binds (ps := ["state"]) fun _ _ _ _ _ _ us hl => match us, hl with | [_], _ => rfl
  have FlK := fun_mk (st := sLawKind) llK clK klK
  have blK := FlK.binds (ps := ["row"]) fun _ _ _ _ _ _ us hl => match us, hl with | [_], _ => rfl
  have FlT := fun_mk (st := sLawTwo) llT clT klT
  have blT := FlT.binds (ps := ["one", "two"]) fun _ _ _ _ _ _ us hl => match us, hl with | [_, _], _ => rfl
  have Flaw := fun_mk (st := sLaw) llaw claw klaw
  have T : Kt K mg cR cB cP cT cI cK cC cD cV cU cS := ⟨tpgR, thdR, tpoR, tsaR, tnR_number, thaR, thmR, tpgB, thdB, tpoB, tsaB, tnB_name, thaB, thmB, tpgP, thdP, tpoP, tsaP, tnP_held, thaP, thmP, tpgT, thdT, tpoT, tsaT, tnT__entries, thaT, thmT, tpgI, thdI, tpoI, tsaI, tnI_owner, tnI_named, thaI, thmI, tpgK, thdK, tpoK, tsaK, tnK_name, tnK_parent, tnK_methods, thaK, thmK, tpgC, thdC, tpoC, tsaC, tnC_number, tnC_wanted, tnC_scope, thaC, thmC, tpgD, thdD, tpoD, tsaD, tnD_owner, tnD_function, thaD, thmD, tpgV, thdV, tpoV, tsaV, tnV_value, thaV, thmV, tpgU, thdU, tpoU, tsaU, tnU_rest, thaU, thmU, tpgS, thdS, tpoS, tsaS, tnS_things, tnS_output, tnS_lines, tnS_taken, thn, tht, tqNoneTypeR, tqNoneTypeB, tqboolR, tqboolB, tqintR, tqintB, tqstrR, tqstrB, tqRbool, tqRint, tqRstr, tsuRNoneType, tnfRNoneType, tsuRint, tnfRint, tsuRstr, tnfRstr, tqBbool, tqBint, tqBstr, tsuBNoneType, tnfBNoneType, tsuBint, tnfBint, tsuBstr, tnfBstr, tqRB, tqBR, tnfRB, tnfBR, tqKP, tqKT, tqKI, tqPT, tqPI, tqPK, tqTP, tqTI, tqTK, tqIP, tqIT, tqIK, tqCP, tqCT, tqCI, tqCK, tqDP, tqDT, tqDI, tqDK, tqVP, tqVT, tqVI, tqVK, tqUP, tqUT, tqUI, tqUK, PySem.W.mg_of X G uR, PySem.W.mg_of X G uB, PySem.W.mg_of X G uP, PySem.W.mg_of X G uT, PySem.W.mg_of X G uI, PySem.W.mg_of X G uK, PySem.W.mg_of X G uC, PySem.W.mg_of X G uD, PySem.W.mg_of X G uV, PySem.W.mg_of X G uU, PySem.W.mg_of X G uS⟩
  have J : Ini K cR cB cP cT cI cK cC cD cV cU cS fR fB fP fT fI fK fC fD fV fU fS fM fA _ _ _ _ _ _ _ _ _ _ _ _ _ := ⟨⟨mkR, aIR, iIR, kcR⟩, FIR, bIR, ⟨mkB, aIB, iIB, kcB⟩, FIB, bIB, ⟨mkP, aIP, iIP, kcP⟩, FIP, bIP, ⟨mkT, aIT, iIT, kcT⟩, FIT, bIT, ⟨mkI, aII, iII, kcI⟩, FII, bII, ⟨mkK, aIK, iIK, kcK⟩, FIK, bIK, ⟨mkC, aIC, iIC, kcC⟩, FIC, bIC, ⟨mkD, aID, iID, kcD⟩, FID, bID, ⟨mkV, aIV, iIV, kcV⟩, FIV, bIV, ⟨mkU, aIU, iIU, kcU⟩, FIU, bIU, ⟨mkS, aIS, iIS, kcS⟩, FIS, bIS, ⟨aSM, iSM, kSM⟩, FSM, bSM, ⟨aSA, iSA, kSA⟩, FSA, bSA⟩
  have L : LawD K mg lC lB lD lP lS lV lK lT _ _ _ _ (PySem.W.fnOf "_law_store" "_law_store" (defArgs sLawStore) (defBody sLawStore) (defScope sLawStore) .none kVlS dclS pmlS anlS cdlS ctlS) (PySem.W.fnOf "_law_value" "_law_value" (defArgs sLawValue) (defBody sLawValue) (defScope sLawValue) .none kVlV dclV pmlV anlV cdlV ctlV) (PySem.W.fnOf "_law_kind" "_law_kind" (defArgs sLawKind) (defBody sLawKind) (defScope sLawKind) .none kVlK dclK pmlK anlK cdlK ctlK) (PySem.W.fnOf "_law_two" "_law_two" (defArgs sLawTwo) (defBody sLawTwo) (defScope sLawTwo) .none kVlT dclT pmlT anlT cdlT ctlT) := ⟨FlC, blC, PySem.W.mg_of X G alC, FlB, blB, PySem.W.mg_of X G alB, FlD, blD, PySem.W.mg_of X G alD, FlP, blP, PySem.W.mg_of X G alP⟩
  have U : BT K mg bA := ⟨PySem.W.mg_of X G sB, fun H => .inr ⟨_, _, _, lBT, rfl, rfl, nB, vB⟩⟩
  have R : Rst K mg kE kO kH kI kY lS lV lK lT _ _ _ _ _ _ _ _ _ := ⟨FfE, bfE, PySem.W.mg_of X G afE, FfO, bfO, PySem.W.mg_of X G afO, FfH, bfH, PySem.W.mg_of X G afH, FfI, bfI, PySem.W.mg_of X G afI, FfY, bfY, PySem.W.mg_of X G afY, FlS, blS, PySem.W.mg_of X G alS, FlV, blV, PySem.W.mg_of X G alV, FlK, blK, PySem.W.mg_of X G alK, FlT, blT, PySem.W.mg_of X G alT⟩
  exact ⟨PySem.W.fnOf "law" "law" (defArgs sLaw) (defBody sLaw) (defScope sLaw) .none kVlaw dclaw pmlaw anlaw cdlaw ctlaw, fun s v => .of_eq rfl, fun base _ _ => okLaw Flaw T B J L U ⟨⟨aER, iER⟩, ⟨aEB, iEB⟩, ok_ER FER T B, ok_EB FEB T B, bER, bEB⟩ R⟩
end My
open PySem PySem.W PyProof.Rows
set_option maxRecDepth 100000 in
set_option maxHeartbeats 0 in
theorem PySem.Challenge.cw_livequill_k19_equality_and_truth_holds : PySem.Challenge.rw_livequill_k19_equality_and_truth.Holds := by
  w_on; o_law; k_head; (case hw => w_witness2)
  k_fill
  refine L2.walk_of (l := PySem.Challenge.rw_livequill_k19_equality_and_truth) (n := 63) (k := 6) (x := "script") (CX := fun _ => L2.CX0) (sp := fun w => My.spLaw _) rfl (by decide) rfl ⟨rfl, by decide, by decide⟩ (fun w h Y => PySem.W.kIn_of Y) ?F (fun _ _ a ns hl _ hS => ⟨a, ns, rfl, hS, hl, fun _ => rfl⟩) (fun _ _ _ _ _ h => h)
  case F =>
    intro w mg fa h KX G hmg
    refine' My.all_mk KX G hmg ?uR ?mkR ?kcR ?uB ?mkB ?kcB ?uP ?mkP ?kcP ?uT ?mkT ?kcT ?uI ?mkI ?kcI ?uK ?mkK ?kcK ?uC ?mkC ?kcC ?uD ?mkD ?kcD ?uV ?mkV ?kcV ?uU ?mkU ?kcU ?uS ?mkS ?kcS ?aIR ?iIR ?lIR ?cIR ?kIR ?aIB ?iIB ?lIB ?cIB ?kIB ?aIP ?iIP ?lIP ?cIP ?kIP ?aIT ?iIT ?lIT ?cIT ?kIT ?aII ?iII ?lII ?cII ?kII ?aIK ?iIK ?lIK ?cIK ?kIK ?aIC ?iIC ?lIC ?cIC ?kIC ?aID ?iID ?lID ?cID ?kID ?aIV ?iIV ?lIV ?cIV ?kIV ?aIU ?iIU ?lIU ?cIU ?kIU ?aIS ?iIS ?lIS ?cIS ?kIS ?aER ?iER ?lER ?cER ?kER ?aEB ?iEB ?lEB ?cEB ?kEB ?aSM ?iSM ?lSM ?cSM ?kSM ?aSA ?iSA ?lSA ?cSA ?kSA ?afE ?lfE ?cfE ?kfE ?afO ?lfO ?cfO ?kfO ?afH ?lfH ?cfH ?kfH ?afI ?lfI ?cfI ?kfI ?afY ?lfY ?cfY ?kfY ?alC ?llC ?clC ?klC ?alB ?llB ?clB ?klB ?alD ?llD ?clD ?klD ?alP ?llP ?clP ?klP ?alS ?llS ?clS ?klS ?alV ?llV ?clV ?klV ?alK ?llK ?clK ?klK ?alT ?llT ?clT ?klT ?alaw ?llaw ?claw ?klaw ?zrange ?zlen ?zint ?zstr ?zbool ?zisinstance ?zlist ?zabs ?zmin ?zmax ?tpgR ?thdR ?tpoR ?tsaR ?tnR_number ?thaR ?thmR ?tpgB ?thdB ?tpoB ?tsaB ?tnB_name ?thaB ?thmB ?tpgP ?thdP ?tpoP ?tsaP ?tnP_held ?thaP ?thmP ?tpgT ?thdT ?tpoT ?tsaT ?tnT__entries ?thaT ?thmT ?tpgI ?thdI ?tpoI ?tsaI ?tnI_owner ?tnI_named ?thaI ?thmI ?tpgK ?thdK ?tpoK ?tsaK ?tnK_name ?tnK_parent ?tnK_methods ?thaK ?thmK ?tpgC ?thdC ?tpoC ?tsaC ?tnC_number ?tnC_wanted ?tnC_scope ?thaC ?thmC ?tpgD ?thdD ?tpoD ?tsaD ?tnD_owner ?tnD_function ?thaD ?thmD ?tpgV ?thdV ?tpoV ?tsaV ?tnV_value ?thaV ?thmV ?tpgU ?thdU ?tpoU ?tsaU ?tnU_rest ?thaU ?thmU ?tpgS ?thdS ?tpoS ?tsaS ?tnS_things ?tnS_output ?tnS_lines ?tnS_taken ?thn ?tht ?tqNoneTypeR ?tqNoneTypeB ?tqboolR ?tqboolB ?tqintR ?tqintB ?tqstrR ?tqstrB ?tqRbool ?tqRint ?tqRstr ?tsuRNoneType ?tnfRNoneType ?tsuRint ?tnfRint ?tsuRstr ?tnfRstr ?tqBbool ?tqBint ?tqBstr ?tsuBNoneType ?tnfBNoneType ?tsuBint ?tnfBint ?tsuBstr ?tnfBstr ?tqRB ?tqBR ?tnfRB ?tnfBR ?tqKP ?tqKT ?tqKI ?tqPT ?tqPI ?tqPK ?tqTP ?tqTI ?tqTK ?tqIP ?tqIT ?tqIK ?tqCP ?tqCT ?tqCI ?tqCK ?tqDP ?tqDT ?tqDI ?tqDK ?tqVP ?tqVT ?tqVI ?tqVK ?tqUP ?tqUT ?tqUI ?tqUK ?sB ?lBT ?vB ?nB
    (case uR => k_is)
    (case mkR => k_is)
    (case kcR => k_is)
    (case uB => k_is)
    (case mkB => k_is)
    (case kcB => k_is)
    (case uP => k_is)
    (case mkP => k_is)
    (case kcP => k_is)
    (case uT => k_is)
    (case mkT => k_is)
    (case kcT => k_is)
    (case uI => k_is)
    (case mkI => k_is)
    (case kcI => k_is)
    (case uK => k_is)
    (case mkK => k_is)
    (case kcK => k_is)
    (case uC => k_is)
    (case mkC => k_is)
    (case kcC => k_is)
    (case uD => k_is)
    (case mkD => k_is)
    (case kcD => k_is)
    (case uV => k_is)
    (case mkV => k_is)
    (case kcV => k_is)
    (case uU => k_is)
    (case mkU => k_is)
    (case kcU => k_is)
    (case uS => k_is)
    (case mkS => k_is)
    (case kcS => k_is)
    (case aIR => k_is)
    (case iIR => k_is)
    (case lIR => k_is)
    (case cIR => k_is)
    (case kIR => k_is)
    (case aIB => k_is)
    (case iIB => k_is)
    (case lIB => k_is)
    (case cIB => k_is)
    (case kIB => k_is)
    (case aIP => k_is)
    (case iIP => k_is)
    (case lIP => k_is)
    (case cIP => k_is)
    (case kIP => k_is)
    (case aIT => k_is)
    (case iIT => k_is)
    (case lIT => k_is)
    (case cIT => k_is)
    (case kIT => k_is)
    (case aII => k_is)
    (case iII => k_is)
    (case lII => k_is)
    (case cII => k_is)
    (case kII => k_is)
    (case aIK => k_is)
    (case iIK => k_is)
    (case lIK => k_is)
    (case cIK => k_is)
    (case kIK => k_is)
    (case aIC => k_is)
    (case iIC => k_is)
    (case lIC => k_is)
    (case cIC => k_is)
    (case kIC => k_is)
    (case aID => k_is)
    (case iID => k_is)
    (case lID => k_is)
    (case cID => k_is)
    (case kID => k_is)
    (case aIV => k_is)
    (case iIV => k_is)
    (case lIV => k_is)
    (case cIV => k_is)
    (case kIV => k_is)
    (case aIU => k_is)
    (case iIU => k_is)
    (case lIU => k_is)
    (case cIU => k_is)
    (case kIU => k_is)
    (case aIS => k_is)
    (case iIS => k_is)
    (case lIS => k_is)
    (case cIS => k_is)
    (case kIS => k_is)
    (case aER => k_is)
    (case iER => k_is)
    (case lER => k_is)
    (case cER => k_is)
    (case kER => k_is)
    (case aEB => k_is)
    (case iEB => k_is)
    (case lEB => k_is)
    (case cEB => k_is)
    (case kEB => k_is)
    (case aSM => k_is)
    (case iSM => k_is)
    (case lSM => k_is)
    (case cSM => k_is)
    (case kSM => k_is)
    (case aSA => k_is)
    (case iSA => k_is)
    (case lSA => k_is)
    (case cSA => k_is)
    (case kSA => k_is)
    (case afE => k_is)
    (case lfE => k_is)
    (case cfE => k_is)
    (case kfE => k_is)
    (case afO => k_is)
    (case lfO => k_is)
    (case cfO => k_is)
    (case kfO => k_is)
    (case afH => k_is)
    (case lfH => k_is)
    (case cfH => k_is)
    (case kfH => k_is)
    (case afI => k_is)
    (case lfI => k_is)
    (case cfI => k_is)
    (case kfI => k_is)
    (case afY => k_is)
    (case lfY => k_is)
    (case cfY => k_is)
    (case kfY => k_is)
    (case alC => k_is)
    (case llC => k_is)
    (case clC => k_is)
    (case klC => k_is)
    (case alB => k_is)
    (case llB => k_is)
    (case clB => k_is)
    (case klB => k_is)
    (case alD => k_is)
    (case llD => k_is)
    (case clD => k_is)
    (case klD => k_is)
    (case alP => k_is)
    (case llP => k_is)
    (case clP => k_is)
    (case klP => k_is)
    (case alS => k_is)
    (case llS => k_is)
    (case clS => k_is)
    (case klS => k_is)
    (case alV => k_is)
    (case llV => k_is)
    (case clV => k_is)
    (case klV => k_is)
    (case alK => k_is)
    (case llK => k_is)
    (case clK => k_is)
    (case klK => k_is)
    (case alT => k_is)
    (case llT => k_is)
    (case clT => k_is)
    (case klT => k_is)
    (case alaw => k_is)
    (case llaw => k_is)
    (case claw => k_is)
    (case klaw => k_is)
    (case zrange => k_is)
    (case zlen => k_is)
    (case zint => k_is)
    (case zstr => k_is)
    (case zbool => k_is)
    (case zisinstance => k_is)
    (case zlist => k_is)
    (case zabs => k_is)
    (case zmin => k_is)
    (case zmax => k_is)
    (case tpgR => k_is)
    (case thdR => k_is)
    (case tpoR => k_is)
    (case tsaR => k_is)
    (case tnR_number => k_is)
    (case thaR => k_is)
    (case thmR => k_is)
    (case tpgB => k_is)
    (case thdB => k_is)
    (case tpoB => k_is)
    (case tsaB => k_is)
    (case tnB_name => k_is)
    (case thaB => k_is)
    (case thmB => k_is)
    (case tpgP => k_is)
    (case thdP => k_is)
    (case tpoP => k_is)
    (case tsaP => k_is)
    (case tnP_held => k_is)
    (case thaP => k_is)
    (case thmP => k_is)
    (case tpgT => k_is)
    (case thdT => k_is)
    (case tpoT => k_is)
    (case tsaT => k_is)
    (case tnT__entries => k_is)
    (case thaT => k_is)
    (case thmT => k_is)
    (case tpgI => k_is)
    (case thdI => k_is)
    (case tpoI => k_is)
    (case tsaI => k_is)
    (case tnI_owner => k_is)
    (case tnI_named => k_is)
    (case thaI => k_is)
    (case thmI => k_is)
    (case tpgK => k_is)
    (case thdK => k_is)
    (case tpoK => k_is)
    (case tsaK => k_is)
    (case tnK_name => k_is)
    (case tnK_parent => k_is)
    (case tnK_methods => k_is)
    (case thaK => k_is)
    (case thmK => k_is)
    (case tpgC => k_is)
    (case thdC => k_is)
    (case tpoC => k_is)
    (case tsaC => k_is)
    (case tnC_number => k_is)
    (case tnC_wanted => k_is)
    (case tnC_scope => k_is)
    (case thaC => k_is)
    (case thmC => k_is)
    (case tpgD => k_is)
    (case thdD => k_is)
    (case tpoD => k_is)
    (case tsaD => k_is)
    (case tnD_owner => k_is)
    (case tnD_function => k_is)
    (case thaD => k_is)
    (case thmD => k_is)
    (case tpgV => k_is)
    (case thdV => k_is)
    (case tpoV => k_is)
    (case tsaV => k_is)
    (case tnV_value => k_is)
    (case thaV => k_is)
    (case thmV => k_is)
    (case tpgU => k_is)
    (case thdU => k_is)
    (case tpoU => k_is)
    (case tsaU => k_is)
    (case tnU_rest => k_is)
    (case thaU => k_is)
    (case thmU => k_is)
    (case tpgS => k_is)
    (case thdS => k_is)
    (case tpoS => k_is)
    (case tsaS => k_is)
    (case tnS_things => k_is)
    (case tnS_output => k_is)
    (case tnS_lines => k_is)
    (case tnS_taken => k_is)
    (case thn => k_is)
    (case tht => k_is)
    (case tqNoneTypeR => kit_is)
    (case tqNoneTypeB => kit_is)
    (case tqboolR => kit_is)
    (case tqboolB => kit_is)
    (case tqintR => kit_is)
    (case tqintB => kit_is)
    (case tqstrR => kit_is)
    (case tqstrB => kit_is)
    (case tqRbool => kit_is)
    (case tqRint => kit_is)
    (case tqRstr => kit_is)
    (case tsuRNoneType => k_is)
    (case tnfRNoneType => k_is)
    (case tsuRint => k_is)
    (case tnfRint => k_is)
    (case tsuRstr => k_is)
    (case tnfRstr => k_is)
    (case tqBbool => kit_is)
    (case tqBint => kit_is)
    (case tqBstr => kit_is)
    (case tsuBNoneType => k_is)
    (case tnfBNoneType => k_is)
    (case tsuBint => k_is)
    (case tnfBint => k_is)
    (case tsuBstr => k_is)
    (case tnfBstr => k_is)
    (case tqRB => kit_is)
    (case tqBR => kit_is)
    (case tnfRB => k_is)
    (case tnfBR => k_is)
    (case tqKP => kit_is)
    (case tqKT => kit_is)
    (case tqKI => kit_is)
    (case tqPT => kit_is)
    (case tqPI => kit_is)
    (case tqPK => kit_is)
    (case tqTP => kit_is)
    (case tqTI => kit_is)
    (case tqTK => kit_is)
    (case tqIP => kit_is)
    (case tqIT => kit_is)
    (case tqIK => kit_is)
    (case tqCP => kit_is)
    (case tqCT => kit_is)
    (case tqCI => kit_is)
    (case tqCK => kit_is)
    (case tqDP => kit_is)
    (case tqDT => kit_is)
    (case tqDI => kit_is)
    (case tqDK => kit_is)
    (case tqVP => kit_is)
    (case tqVT => kit_is)
    (case tqVI => kit_is)
    (case tqVK => kit_is)
    (case tqUP => kit_is)
    (case tqUT => kit_is)
    (case tqUI => kit_is)
    (case tqUK => kit_is)
    (case sB => k_is)
    (case lBT => k_is)
    (case vB => repeat (first | exact PySem.Paired.nil | refine PySem.Paired.cons ⟨_, rfl⟩ ?_))
    (case nB => (rw [sizeLine_eq]; decide))
