import PyProof.Rows.All
import Wide.All
import OpenK.AllK
import Wide.FinOn
import HandS.ForMost
import HandS.ForExc
import HandS.StrMore
import HandS.IsInst
import HandS.Codes
import HandS.Gcd
import HandS.Zip
import HandS.Zip0
import KE.GoesZip
import KE.GoesMore
import HandS.Walk
import KE.KMathG
import HandS.Text
import HandS.Flow
import HandS.More
import HandS.Walk
import HandS.OwnEq
import HandS.Style
import PyProof.Raises
import KE.RegKIsAll
import KE.KSuper
import KE.KExcSuper
import HandS.ExcInit
import HandS.Nested
import HandS.FStr
import HandS.ExcField
import HandS.ExcIs
import HandS.Wide
import HandS.Replace
import KE.GoesEnum
import HandS.ReplaceDef
import HandS.ReplaceLit
import HandS.ReplaceList
import HandS.WideBits
import HandS.ExcCtx
import HandS.HotCalls
import HandS.Deep
import HandS.CallLocal
import HandS.CallSlots
import HandS.Star
import HandS.TupLen
import HandS.Property
import KE.KStar
import KE.KeyNested
import KE.KDictCopyH
import KE.KDictList
import PyProof.StrBlock2
import HandS.Conv
import KE.KDictWalk
import PyProof.DictValues
import PyProof.DictRoadsH
import PyProof.DictMoreH
import PyProof.Rows.TupTab
import HandS.DictComp
import HandS.Defaults
import HandS.SortInts
import HandS.Comp
import HandS.Iter
import HandS.List
import PySem.Challenge.RW_livequill_k71_what_is_reached
set_option Elab.async false
set_option linter.all false
set_option maxRecDepth 100000
namespace XV
open PySem PySem.Spec PyProof.Rows L2
def ViewO (d v : Addr) : HO := .ext fun h => h.IsValuesView v d
section
variable {prog : Program} {w : World} {A : Around} {E : Value → Shared → Prop} {s : Shared}
variable {X : Cx} {o : Expr} {to : TE} {apos cpos : Pos}
/-- d.values() of an empty dict -/
def tVals0 (to : TE) : TE := fun σ H Q => to σ H fun x H1 => ∃ a, x = .ref a ∧ H1 a = some (.dK []) ∧ ∀ v, H1 v = none → Q (.ref v) (upd H1 v (ViewO a v))
theorem pe_vals0 (ho : PE X o to) (hbase : attributeBase o "values" X.env (eval o X.env) = eval o X.env := by rfl) (hline : (apos.endLine == cpos.line) = true := by rfl) : PE X (.Call (.Attribute o "values" apos) [] [] cpos) (tVals0 to) := by
  refine ⟨fun pins s σ H Q I h => ?_⟩
  refine wpAny_Call_method0_late hbase hline (thn (ho.run pins s σ H _ I h) fun v s1 ⟨x, H1, I1, r1, a, ex, ha, q1⟩ => ?_)
  subst ex
  obtain rfl : v = Value.ref a := r1
  obtain ⟨_, hsys, vs, rel, dof⟩ := dk_of I1.hok ha
  obtain ⟨ep, dat⟩ := dof.dictAt
  have dat' := dat
  obtain ⟨ob, es, ho', ex, hdat, hko, hpr, hnd⟩ := dat'
  refine ⟨"dict", "dict.values", F.plainAttrs_dict, F.slot_dict_values, F.type_dict_values, ⟨ob, ho', ex.1⟩, fun b e => ?_, Calls.callWith_builtin rfl (PySem.evalArgs_none ?_)⟩
  · cases e
    exact ⟨ob, ho', ex.2.1⟩
  refine call_meetsIn F.slot_dict_values ⟨ob, ho', ex.1⟩ F.entry_dict_values (F.args_dict_values_1 _) (meets_dict_values (mixKind X.prog X.w) a hsys) ⟨⟨vs, dof⟩, ?_⟩
  have hv : (s1.heap.push { cls := .type "dict_values", data := .fields #[.ref a] }).IsValuesView s1.heap.objs.size a := ⟨_, Heap.get?_push_size _ rfl, rfl, rfl⟩
  refine ⟨.ref s1.heap.objs.size, _, I1.laid (a := s1.heap.objs.size) (o := ViewO a s1.heap.objs.size) (t' := s1.toks) (fun _ _ q => Heap.get?_push_of_some _ q) (Nat.le_refl _) ?_, rfl, q1 _ (I1.hok.fresh (Nat.le_refl _))⟩
  exact ⟨hv, ⟨_, Heap.get?_push_size _ rfl⟩, fun g1 g2 ⟨ob, k1, k2⟩ st => ⟨ob, st _ k1, k2⟩⟩
/-- list(d.values()) of an empty dict -/
theorem call_list_vals0 (hc : X.calm = true) : CallR X (.type "list") (fun vs H Q => ∃ v a, vs = [.ref v] ∧ H v = some (ViewO a v) ∧ H a = some (.dK []) ∧ ∀ l, H l = none → Q (.ref l) (upd H l (.lst []))) := by
  intro pins s σ H vs us Q I rv h
  obtain ⟨v, a, rfl, hv, ha, q⟩ := h
  obtain ⟨u, rfl, ru⟩ := rv.one
  obtain rfl : u = Value.ref v := ru
  obtain ⟨_, hsys, vs, rel, dof⟩ := dk_of I.hok ha
  obtain ⟨ep, dat⟩ := dof.dictAt
  obtain ⟨ob, es, ho', ex, hdat, hko, hpr, hnd⟩ := dat
  obtain ⟨hview, _, _⟩ := (show ObjOk X.prog X.w H s.heap v (ViewO a v) from I.hok v _ hv)
  have hview : s.heap.IsValuesView v a := hview
  have he : vs = [] := by
    have := KV.length rel
    exact List.eq_nil_of_length_eq_zero this.symm
  subst he
  have hsz : es.size = 0 := by
    have := Pairs.length hpr
    rw [Array.length_toList] at this
    exact this
  refine W.kdl_call PySem.KdlSrc.rawValues (I.ok.hd hc) ⟨hview, ob, ho', ex, hdat⟩ (by omega) fun h' tk acc' c' hk hS hacc => ?_
  have ea : acc' = #[] := Array.eq_empty_of_size_eq_zero (by rw [hacc.1]; omega)
  refine ⟨.ref s.heap.objs.size, _, I.laid (t' := tk) hk (Nat.le_refl _) (show ObjOk X.prog X.w _ h' _ (.lst []) from ⟨?_, [], c', ?_, ?_⟩), rfl, q _ (I.hok.fresh (Nat.le_refl _))⟩
  · exact Nat.zero_le _
  · exact .nil
  · rw [ea] at hS
    exact hS
end
end XV
namespace XV
open PySem PySem.Spec PyProof.Rows L2
/-- {kx: vx for t0 in i0 for t1 in i1} -/
abbrev DC (kx vx t0 i0 t1 i1 : Expr) (sc : Scope) (pos : Pos) : Expr := .DictComp kx vx [⟨t0, i0, [], 0⟩, ⟨t1, i1, [], 0⟩] sc pos
section
variable {kx vx t0 i0 t1 i1 : Expr} {sc : Scope} {pos : Pos} {it : Value} {D : Addr} {en : Env}
theorem turnI : compTurn (DC kx vx t0 i0 t1 i1 sc pos) 1 it (.ref D) en = (do
    standAt i1.pos
    let r ← pyNext it
    match r with
    | none => pure (.done .next)
    | some v => do
      letOwnedTupleGo t1 it v
      assign t1 en v
      (do let k ← eval kx en; let v ← holding [k] (eval vx en); standAt { kx.pos with endLine := vx.pos.endLine, endCol := vx.pos.endCol }; holding [k, v] (dictSet D k v))
      again (.compLoop (DC kx vx t0 i0 t1 i1 sc pos) 1 it (.ref D) en)) := by rfl
theorem turnO : compTurn (DC kx vx t0 i0 t1 i1 sc pos) 0 it (.ref D) en = (do
    standAt i0.pos
    let r ← pyNext it
    match r with
    | none => pure (.done .next)
    | some v => do
      letOwnedTupleGo t0 it v
      assign t0 en v
      let x ← eval i1 en
      standAt i1.pos
      let y ← foldedSetIterable i1 en x
      let j ← holding [y] (pyIter y)
      let _ ← runOwn (.compStart (DC kx vx t0 i0 t1 i1 sc pos) 1 j (.ref D) en) en
      again (.compLoop (DC kx vx t0 i0 t1 i1 sc pos) 0 it (.ref D) en)) := by rfl
variable {P : Program} {w : World} {A : Around} {R : Result → Shared → Prop} {s : Shared}
abbrev Nb (P : Program) (w : World) (A : Around) (en : Env) (R : Result → Shared → Prop) := notedBy (model P w) A en fun e z => R (.error e) z
abbrev Wp (P : Program) (w : World) (A : Around) (en : Env) (R : Result → Shared → Prop) {α : Type} (c : Sem α) (q : α → Shared → Prop) (s : Shared) : Prop := wpAny (model P w) A c q (Nb P w A en R) s
theorem wmono {α : Type} {c : Sem α} {q q' : α → Shared → Prop} (h : Wp P w A en R c q s) (k : ∀ a z, q a z → q' a z) : Wp P w A en R c q' s := wpAny_mono h k fun _ _ e => e
theorem loopI (V : Nat → Shared → Prop) (go : ∀ n z, V n z → Wp P w A en R (pyNext it) (fun r z => match r with
      | none => R (.ok .next) z
      | some v => Wp P w A en R (letOwnedTupleGo t1 it v) (fun _ z => Wp P w A en R (assign t1 en v) (fun _ z => Wp P w A en R (eval kx en) (fun k z => Wp P w A en R (eval vx en) (fun y z => Wp P w A en R (dictSet D k y) (fun _ z => ∃ m, m < n ∧ V m z) z) z) z) z) z) z)
    (n : Nat) (h : V n s) : codeAny (model P w) A (.compLoop (DC kx vx t0 i0 t1 i1 sc pos) 1 it (.ref D) en) R s := by
  refine codeAny_loop rfl V (fun n z hv => wpAny_noted ?_) n h
  rw [turnI]
  refine wpAny_bind (wpAny_standAt (wpAny_bind (wmono (go n z hv) fun r z1 h1 => ?_)))
  cases r with
  | none => exact wpAny_pure h1
  | some v => exact wpAny_bind (wmono h1 fun _ z2 h2 => wpAny_bind (wmono h2 fun _ z3 h3 => wpAny_bind (wpAny_bind (wmono h3 fun k z4 h4 => wpAny_bind (wpAny_holding (wmono h4 fun y z5 h5 => wpAny_bind (wpAny_standAt (wpAny_holding (wmono h5 fun _ z6 h6 => wpAny_pure ⟨rfl, h6⟩)))))))))
theorem loopO (hf : ∀ x, foldedSetIterable i1 en x = pure x) (V : Nat → Shared → Prop) (go : ∀ n z, V n z → Wp P w A en R (pyNext it) (fun r z => match r with
      | none => R (.ok .next) z
      | some v => Wp P w A en R (letOwnedTupleGo t0 it v) (fun _ z => Wp P w A en R (assign t0 en v) (fun _ z => Wp P w A en R (eval i1 en) (fun x z => Wp P w A en R (pyIter x) (fun j z =>
          codeAny (model P w) A (.compStart (DC kx vx t0 i0 t1 i1 sc pos) 1 j (.ref D) en) (fun r z => match r with | .ok _ => ∃ m, m < n ∧ V m z | .error _ => False) z) z) z) z) z) z)
    (n : Nat) (h : V n s) : codeAny (model P w) A (.compLoop (DC kx vx t0 i0 t1 i1 sc pos) 0 it (.ref D) en) R s := by
  refine codeAny_loop rfl V (fun n z hv => wpAny_noted ?_) n h
  rw [turnO]
  refine wpAny_bind (wpAny_standAt (wpAny_bind (wmono (go n z hv) fun r z1 h1 => ?_)))
  cases r with
  | none => exact wpAny_pure h1
  | some v =>
    refine wpAny_bind (wmono h1 fun _ z2 h2 => wpAny_bind (wmono h2 fun _ z3 h3 => wpAny_bind (wmono h3 fun x z4 h4 => wpAny_bind (wpAny_standAt (wpAny_bind (wpAny_of_eq (hf x) (wpAny_bind (wpAny_holding (wmono h4 fun j z5 h5 => ?_)))))))))
    refine wpAny_bind (wpAny_runOwn ?_)
    rw [Around.mark_none]
    refine codeAny_mono h5 fun r z6 h6 => ?_
    cases r with
    | ok f => exact wpAny_pure ⟨rfl, h6⟩
    | error e => exact h6.elim
theorem startI (h0 : codeAny (model P w) A (.compLoop (DC kx vx t0 i0 t1 i1 sc pos) 1 it (.ref D) en) R s)
    (h : Wp P w A en R (pyIter it) (fun j z => codeAny (model P w) A (.compLoop (DC kx vx t0 i0 t1 i1 sc pos) 1 j (.ref D) en) R z) s) : codeAny (model P w) A (.compStart (DC kx vx t0 i0 t1 i1 sc pos) 1 it (.ref D) en) R s := by
  refine codeAny_of_tree (wpAny_notedAt ?_)
  unfold compStart
  refine wpAny_bind (wpAny_askSetting (wpAny_ite ?_))
  split
  · first | exact wpAny_bind (wpAny_pure (wpAny_pure ⟨rfl, h0⟩)) | exact wpAny_pure ⟨rfl, h0⟩
  · refine wpAny_bind (wpAny_rule ?_)
    exact wpAny_bind (wpAny_standAt (wpAny_bind (wmono h fun j z e => wpAny_pure ⟨rfl, e⟩)))
end
end XV
namespace XV
open PySem PySem.Spec PyProof.Rows L2
section
variable {X : Cx}
/-- what {kx: vx for t0 in i0 for t1 in i1} asks: as tLc2, the dict of ints and texts at D -/
def tDc2 (wi : TI) (g : TG) (wi1 : TI) (g1 : TG) (tk tv : TE) (vs vs1 : List Nat) : TE := fun σ H Q => wi σ H fun J H1 => ∀ D, H1 D = none → ∃ W : Nat → Nat → Hp → Prop, (∃ m, W 0 m (upd H1 D (.dK []))) ∧ ∀ i m H, W i m H →
  (J.stop i H ∧ Q (.ref D) H) ∨ (J.go i H ∧ ∃ Nx : Hp → Prop, (∀ H', Nx H' → ∃ m', m' < m ∧ W (i + 1) m' H') ∧ ∀ x H', J.yld i H x H' → g x (wipe σ vs) H' fun σ2 H2 => wipe σ2 vs = wipe σ vs ∧
    wi1 σ2 H2 fun J1 H4 => ∃ U : Nat → Nat → Hp → Prop, (∃ m, U 0 m H4) ∧ ∀ j k H, U j k H →
      (J1.stop j H ∧ Nx H) ∨ (J1.go j H ∧ ∃ Ny : Hp → Prop, (∀ H', Ny H' → ∃ k', k' < k ∧ U (j + 1) k' H') ∧ ∀ x H', J1.yld j H x H' → g1 x (wipe σ2 vs1) H' fun σ3 H5 => wipe σ3 vs1 = wipe σ2 vs1 ∧
        tk σ3 H5 fun y H6 => tv σ3 H6 fun z H7 => ∃ kvs k, y = kV k ∧ H7 D = some (.dK kvs) ∧ kvs.length < sizeLine ∧ Ny (upd H7 D (.dK (putK kvs k z)))))
theorem dc2_core {pins : List (Addr × Obj)} {s : Shared} {σ : L2.St} {H : Hp} {Q : VK} {kx vx t0 i0 t1 i1 : Expr} {sc : Scope} {own : List (Str × Nat)} {vs1 : List Nat} {pos pos' : Pos} {wi wi1 : TI} {g g1 : TG} {tk tv : TE} {use : Option (Value → Sem Unit)} {Qf : Value → Shared → Prop} (I : Inv X pins σ H s) (hc : X.calm = true) (hN : X.N.Nodup) (hi : PI X t0 i0 wi) (bk : BlkOk X.N X.env.scope sc own) (hv : ∀ i ∈ vs1, i ∈ own.map (·.2))
    (hg : ∀ s H C cl fp, PG (X.blk s H sc (compEnvC sc cl C X.env) fp) t0 g) (hi1 : ∀ s H C cl fp, PI (X.blk s H sc (compEnvC sc cl C X.env) fp) t1 i1 wi1) (hg1 : ∀ s H C cl fp, PG (X.blk s H sc (compEnvC sc cl C X.env) fp) t1 g1)
    (hk : ∀ s H C cl fp, PE (X.blk s H sc (compEnvC sc cl C X.env) fp) kx tk) (he : ∀ s H C cl fp, PE (X.blk s H sc (compEnvC sc cl C X.env) fp) vx tv) (f0 : ∀ x, foldedSetIterable i0 X.env x = pure x) (f1 : ∀ e x, foldedSetIterable i1 e x = pure x)
    (h : tDc2 wi g wi1 g1 tk tv (own.map (·.2)) vs1 σ H Q) (out : ∀ D C z m H', Inv X pins σ H' z → Q (.ref D) H' → z.heap.Ns C m → FpOk X pins H' C → compPost (model X.prog X.w) X.A X.xe use Qf (.ref D) C (.ok .next) z) :
    wpAny (model X.prog X.w) X.A (comprehension (DC kx vx t0 i0 t1 i1 sc pos) sc X.env pos' newDict false (eval i0 X.env) use) Qf X.xe s := by
  have cells : ∀ y ∈ sc.names, y.2 = .free → ∃ c, X.env.cells.lookup y.1 = some c := fun y hy e => (bk.free y hy e).elim (fun k => I.ok.has _ (.inl k)) fun k => I.ok.has _ (.inr k)
  refine wpAny_comprehension_free (use := use) rfl f0 (closure_ok cells) bk.kind (fun y hy e => by rw [bk.uniq y hy, e]) (thn (hi.run pins s σ H _ I h) fun xv sa ha => thn ha fun iv sb hb => ?_)
  obtain ⟨it, fp, tn, J, Hb, rfl, Ib, T, stb, fb, q⟩ := hb
  refine wpAny_newObj_type (newEnv_comp ?_)
  generalize eD : sb.heap.objs.size = D
  obtain ⟨W, ⟨m0, w0⟩, turn⟩ := q D (Ib.hok.fresh (Nat.le_of_eq eD))
  generalize ec : ({ sb with heap := sb.heap.push { cls := .type "dict", data := .dict #[] } } : Shared) = sc3
  have Ic : Inv X pins σ (upd Hb D (.dK [])) sc3 := by
    subst ec
    refine Ib.laid (t' := sb.toks) (fun b o e => Heap.get?_push_of_some _ e) (Nat.le_of_eq eD) ?_
    subst eD
    exact dk_empty sb.heap Ib.big
  have hc3 : sc3.heap = sb.heap.push { cls := .type "dict", data := .dict #[] } := by rw [← ec]
  have f3 : ∀ b ∈ fp, FpOk X pins (upd Hb D (.dK [])) b ∧ b < sc3.heap.objs.size := fun b hb => by
    obtain ⟨o, e, _⟩ := T.obj _ _ stb b hb
    have lt := Heap.lt_size e
    refine ⟨⟨?_, (fb b hb).2⟩, by rw [hc3, Heap.size_push]; exact Nat.lt_succ_of_lt lt⟩
    rw [upd_ne (by subst eD; exact Nat.ne_of_lt lt)]
    exact (fb b hb).1
  have stc : tn 0 sc3.heap := T.keep _ _ _ stb fun b _ o e => by rw [hc3]; exact Heap.get?_push_of_some _ e
  have Id := block_start Ic bk hN f3
  have P0 := hg sc3 (upd Hb D (.dK [])) sc3.heap.objs.size (cellsFrom (sc3.heap.objs.size + 1) sc.names (cloFrom X.env.cells sc.names [])) fp
  have P1 := hi1 sc3 (upd Hb D (.dK [])) sc3.heap.objs.size (cellsFrom (sc3.heap.objs.size + 1) sc.names (cloFrom X.env.cells sc.names [])) fp
  have P2 := hg1 sc3 (upd Hb D (.dK [])) sc3.heap.objs.size (cellsFrom (sc3.heap.objs.size + 1) sc.names (cloFrom X.env.cells sc.names [])) fp
  have P3 := hk sc3 (upd Hb D (.dK [])) sc3.heap.objs.size (cellsFrom (sc3.heap.objs.size + 1) sc.names (cloFrom X.env.cells sc.names [])) fp
  have P4 := he sc3 (upd Hb D (.dK [])) sc3.heap.objs.size (cellsFrom (sc3.heap.objs.size + 1) sc.names (cloFrom X.env.cells sc.names [])) fp
  show codeAny _ _ (.compStart (DC kx vx t0 i0 t1 i1 sc pos) 0 (.ref it) (.ref D) (compEnvC sc (cellsFrom (sc3.heap.objs.size + 1) sc.names (cloFrom X.env.cells sc.names [])) sc3.heap.objs.size X.env)) (compPost (model X.prog X.w) X.A X.xe use Qf (.ref D) sc3.heap.objs.size) { sc3 with heap := pushCells (sc3.heap.push { cls := .type "dict", data := .dict #[] }) sc.names }
  have free3 : ∀ b ∈ fp, (upd Hb D (.dK [])) b = none := fun b hb => (f3 b hb).1.1
  generalize ee : compEnvC sc (cellsFrom (sc3.heap.objs.size + 1) sc.names (cloFrom X.env.cells sc.names [])) sc3.heap.objs.size X.env = en at Id P0 P1 P2 P3 P4 ⊢
  have eloc : en.locals = sc3.heap.objs.size := by subst ee; rfl
  generalize eH : upd Hb D (.dK []) = Hc at Ic Id P0 P1 P2 P3 P4 w0 free3 f3
  generalize e4 : ({ sc3 with heap := pushCells (sc3.heap.push { cls := .type "dict", data := .dict #[] }) sc.names } : Shared) = sd at Id ⊢
  have std : tn 0 sd.heap := T.keep _ _ _ stc fun b _ o e => by subst e4; exact pushCells_keeps _ _ _ _ (Heap.get?_push_of_some _ e)
  have still : ∀ {σ' : L2.St} {H' : Hp} {z : Shared}, Inv (X.blk sc3 Hc sc en fp) [] σ' H' z → (∀ b ∈ fp, H' b = none) → ∀ b ∈ fp, FpOk (X.blk sc3 Hc sc en fp) [] H' b := fun {σ' H' z} I' hn b hb =>
    ⟨hn b hb, (I'.ok.exf b hb).1, I'.ok.exfs b hb, .inl hb, fun x c e => (I'.ok.exf b hb).2 x c e, fun p hp => by simp at hp⟩
  have L : codeAny (model X.prog X.w) X.A (.compLoop (DC kx vx t0 i0 t1 i1 sc pos) 0 (.ref it) (.ref D) en) (compPost (model X.prog X.w) X.A X.xe use Qf (.ref D) sc3.heap.objs.size) sd := by
    refine loopO (f1 en) (fun n z => ∃ i H', Inv (X.blk sc3 Hc sc en fp) [] (wipe σ (own.map (·.2))) H' z ∧ tn i z.heap ∧ (∀ b ∈ fp, H' b = none) ∧ W i n H') ?_ m0 ⟨0, Hc, Id, std, free3, w0⟩
    rintro n z1 ⟨i, Hi, Ii, sti, ni, wi'⟩
    rcases turn i n Hi wi' with ⟨stop, qq⟩ | ⟨go, Nx, toN, step⟩
    · refine thnF (T.done (X.blk sc3 Hc sc en fp) rfl rfl rfl hc i [] z1 _ Hi (fun _ _ => False) Ii (still Ii ni) sti stop) fun r z2 ⟨hr, Iz⟩ => ?_
      subst hr
      have Iq : Inv X pins σ Hi z2 := Ic.call' (ch := fp) Iz.os Iz.base Iz.hok Iz.bare fun b hb => let u := (f3 b hb).1.2; ⟨u.2.2.1, u.1, u.2.2.2.1, u.2.2.2.2⟩
      have nC : Hi sc3.heap.objs.size = none := by
        rw [← eloc]
        exact Iz.free
      obtain ⟨m, hn, _⟩ := Iz.loc
      have hn : z2.heap.Ns en.locals m := hn
      rw [eloc] at hn
      exact out D _ z2 m Hi Iq qq hn (Ic.fpOk (Nat.le_refl _) nC)
    · refine thnF (T.item (X.blk sc3 Hc sc en fp) rfl rfl rfl hc i [] z1 _ Hi (fun _ _ => False) Ii (still Ii ni) sti go) fun r z2 ⟨u, hr, h2⟩ => ?_
      subst hr
      refine thnF h2 fun _ z3 ⟨x, H3, I3, r3, y3, st3, n3⟩ => ?_
      refine thnF (P0.run _ z3 _ H3 x u _ (I3.pinned (still I3 n3) (T.obj _ _ st3)) r3 (step x H3 y3)) fun _ z4 ⟨σ4, H4, I4, hw4, q4⟩ => ?_
      have len4 : (wipe σ (own.map (·.2))).length = (wipe σ4 vs1).length := by rw [← hw4, wipe_length, wipe_length]
      have has4 : ∀ (j : Nat) v, (wipe σ (own.map (·.2)))[j]? = some (some v) → (wipe σ4 vs1)[j]? = some (some v) := fun j v e => by
        rw [← hw4] at e
        rw [wipe_out fun m => (wipe_some e).2 (hv j m)]
        exact (wipe_some e).1
      have fin : ∀ {z : Shared} {H' : Hp}, Inv (X.blk sc3 Hc sc en fp) ([] ++ pinsAt fp z3.heap) (wipe σ4 vs1) H' z → Nx H' → ∃ m, m < n ∧ ∃ i H', Inv (X.blk sc3 Hc sc en fp) [] (wipe σ (own.map (·.2))) H' z ∧ tn i z.heap ∧ (∀ b ∈ fp, H' b = none) ∧ W i m H' := fun {z H'} I' nx => by
        obtain ⟨m', lt, w'⟩ := toN H' nx
        have pp : ∀ b ∈ fp, ∀ o, z3.heap.get? b = some o → z.heap.get? b = some o ∧ H' b = none := fun b hb o e => by
          have := I'.pin (b, o) (List.mem_append_right _ (List.mem_append_right _ (mem_pinsAt hb e)))
          exact ⟨this.1, this.2.1⟩
        refine ⟨m', lt, i + 1, H', (I'.unpinned (pins := [])).weak len4 has4, T.keep _ _ _ st3 fun b hb o e => (pp b hb o e).1, fun b hb => ?_, w'⟩
        obtain ⟨o, e, _⟩ := T.obj _ _ st3 b hb
        exact (pp b hb o e).2
      refine thnF (P1.run _ z4 σ4 H4 _ I4 q4) fun xw z5 h5 => thnF h5 fun jw z6 h6 => ?_
      obtain ⟨jt, gp, un, J1, H6, rfl, I6, T1, st6, f6, U, ⟨m1, u1⟩, turn1⟩ := h6
      have still1 : ∀ {H' : Hp}, (∀ b ∈ gp, H' b = none) → ∀ b ∈ gp, FpOk (X.blk sc3 Hc sc en fp) ([] ++ pinsAt fp z3.heap) H' b := fun hn b hb => ⟨hn b hb, (f6 b hb).2⟩
      have L1 : codeAny (model X.prog X.w) X.A (.compLoop (DC kx vx t0 i0 t1 i1 sc pos) 1 (.ref jt) (.ref D) en) (fun r z => match r with | .ok _ => ∃ m, m < n ∧ ∃ i H', Inv (X.blk sc3 Hc sc en fp) [] (wipe σ (own.map (·.2))) H' z ∧ tn i z.heap ∧ (∀ b ∈ fp, H' b = none) ∧ W i m H' | .error _ => False) z6 := by
        refine loopI (fun k z => ∃ j H', Inv (X.blk sc3 Hc sc en fp) ([] ++ pinsAt fp z3.heap) (wipe σ4 vs1) H' z ∧ un j z.heap ∧ (∀ b ∈ gp, H' b = none) ∧ U j k H') ?_ m1 ⟨0, H6, I6.weak (wipe_length _ _) (fun j v e => (wipe_some e).1), st6, fun b hb => (f6 b hb).1, u1⟩
        rintro k z7 ⟨j, H7, I7, st7, n7, u7⟩
        rcases turn1 j k H7 u7 with ⟨stop1, nx1⟩ | ⟨go1, Ny, toY, step1⟩
        · refine thnF (T1.done (X.blk sc3 Hc sc en fp) rfl rfl rfl hc j _ z7 (wipe σ4 vs1) H7 (fun _ _ => False) I7 (still1 n7) st7 stop1) fun r z8 ⟨hr, I8⟩ => ?_
          subst hr
          exact fin I8 nx1
        · refine thnF (T1.item (X.blk sc3 Hc sc en fp) rfl rfl rfl hc j _ z7 (wipe σ4 vs1) H7 (fun _ _ => False) I7 (still1 n7) st7 go1) fun r z8 ⟨u8, hr, h8⟩ => ?_
          subst hr
          refine thnF h8 fun _ z9 ⟨x9, H9, I9, r9, y9, st9, n9⟩ => ?_
          refine thnF (P2.run _ z9 (wipe σ4 vs1) H9 x9 u8 _ (I9.pinned (still1 n9) (T1.obj _ _ st9)) r9 (step1 x9 H9 y9)) fun _ za ⟨σa, Ha, Ia, hwa, qa⟩ => ?_
          refine thnF (P3.run _ za σa Ha _ Ia qa) fun kw zb ⟨yk, He, Ie, re, qe⟩ => ?_
          refine thnF (P4.run _ zb σa He _ Ie qe) fun vw zc ⟨yv, Hf, If, rf, kvs, kk, ek, hD, hz, ny⟩ => ?_
          subst ek
          refine d_dictSet (X := (X.blk sc3 Hc sc en fp)) If hD hz re rf fun zd Ig => ?_
          obtain ⟨k', lt, w'⟩ := toY _ ny
          have pp : ∀ b ∈ gp, ∀ o, z9.heap.get? b = some o → zd.heap.get? b = some o ∧ (upd Hf D (.dK (putK kvs kk yv))) b = none := fun b hb o e => by
            have := Ig.pin (b, o) (List.mem_append_right _ (List.mem_append_right _ (mem_pinsAt hb e)))
            exact ⟨this.1, this.2.1⟩
          refine ⟨k', lt, j + 1, _, Ig.unpinned.weak (by rw [← hwa, wipe_length]) (fun j v e => by rw [← hwa] at e; exact (wipe_some e).1), T1.keep _ _ _ st9 fun b hb o e => (pp b hb o e).1, fun b hb => ?_, w'⟩
          obtain ⟨o, e, _⟩ := T1.obj _ _ st9 b hb
          exact (pp b hb o e).2
      exact startI L1 (T1.self X.A 0 _ _ _ st6 L1)
  exact codeAny_compStart_dict L (T.self X.A 0 _ _ _ std L)
/-- the store of a comprehension's value to a local name, within its frame -/
theorem stored {pins : List (Addr × Obj)} {σ : L2.St} {y : Str} {i : Nat} {py : Pos} {D : Ends} (hN : X.N.Nodup) (hy : X.N[i]? = some y) (hl : X.env.scope.names.lookup y = some .local) {L C : Addr} {z : Shared} {m : Str → Option Value} {H' : Hp}
    (I' : Inv X pins σ H' z) (q : gName i (.ref L) σ H' D.nx) (hn : z.heap.Ns C m) (f : FpOk X pins H' C) : compPost (model X.prog X.w) X.A X.xe (some (assign (.Name y py) X.env)) (fun _ z => SP X pins D .next z) (.ref L) C (.ok .next) z := by
  show wpAny _ _ (assign (.Name y py) X.env (.ref L)) _ _ _
  refine wpAny_assign_Name (store_ok2 (v := V.ref L) I' hN hy (.inl hl) rfl (fun z2 I2 ⟨a, sb, ha⟩ => ?_) (.inr hl))
  obtain ⟨a0, a1, a2, a3, a4, a5⟩ := f
  have ne : C ≠ a := by
    rcases ha with e | e
    · exact fun z => a1 (z.trans e)
    · exact fun z => a4 y a e z.symm
  exact ⟨m, hn.sameBut sb ne, fun h3 s3 => ⟨_, H', I2.turned (t' := z2.toks) (fun b o hb e => (s3.2 b hb).trans e) a0 a1 a3 a4 a5, q⟩⟩
theorem ps_setDc2 {i : Nat} {y : Str} {py spos : Pos} {kx vx t0 i0 t1 i1 : Expr} {sc : Scope} {own : List (Str × Nat)} {vs1 : List Nat} {pos : Pos} {wi wi1 : TI} {g g1 : TG} {tk tv : TE} (hc : X.calm = true) (hN : X.N.Nodup) (hy : X.N[i]? = some y) (hl : X.env.scope.names.lookup y = some .local) (sw : swapsWith (DC kx vx t0 i0 t1 i1 sc pos) (some (.Name y py)) spos.line X.env = pure true) (hi : PI X t0 i0 wi) (bk : BlkOk X.N X.env.scope sc own) (hv : ∀ i ∈ vs1, i ∈ own.map (·.2))
    (hg : ∀ s H C cl fp, PG (X.blk s H sc (compEnvC sc cl C X.env) fp) t0 g) (hi1 : ∀ s H C cl fp, PI (X.blk s H sc (compEnvC sc cl C X.env) fp) t1 i1 wi1) (hg1 : ∀ s H C cl fp, PG (X.blk s H sc (compEnvC sc cl C X.env) fp) t1 g1)
    (hk : ∀ s H C cl fp, PE (X.blk s H sc (compEnvC sc cl C X.env) fp) kx tk) (he : ∀ s H C cl fp, PE (X.blk s H sc (compEnvC sc cl C X.env) fp) vx tv) (f0 : ∀ x, foldedSetIterable i0 X.env x = pure x := by intro _; rfl) (f1 : ∀ e x, foldedSetIterable i1 e x = pure x := by intro _ _; rfl) :
    PS X (.Assign [.Name y py] (DC kx vx t0 i0 t1 i1 sc pos) spos) (tAsg (tDc2 wi g wi1 g1 tk tv (own.map (·.2)) vs1) (gName i)) := by
  refine ⟨fun pins s σ H D I h => ?_⟩
  rw [exec_Assign_Name_used _ _ _ _ sw]
  refine wpAny_bind (wpAny_standAt (wpAny_bind (wpAny_bind (thn (dc2_core (Q := fun x H1 => gName i x σ H1 D.nx) (use := some (assign (.Name y py) X.env)) I hc hN hi bk hv hg hi1 hg1 hk he f0 f1 h fun L C z m H' I' q hn f => stored hN hy hl I' q hn f) fun _ z hq => wpAny_pure (wpAny_pure hq)))))
theorem ps_setDc {i : Nat} {y : Str} {py spos : Pos} {kx vx t0 i0 : Expr} {ifs : List Expr} {sc : Scope} {own : List (Str × Nat)} {pos : Pos} {wi : TI} {g : TG} {tt : TT} {tk tv : TE} (hc : X.calm = true) (hN : X.N.Nodup) (hy : X.N[i]? = some y) (hl : X.env.scope.names.lookup y = some .local) (sw : swapsWith (.DictComp kx vx [⟨t0, i0, ifs, 0⟩] sc pos) (some (.Name y py)) spos.line X.env = pure true) (hi : PI X t0 i0 wi) (bk : BlkOk X.N X.env.scope sc own)
    (hg : ∀ s H C cl fp, PG (X.blk s H sc (compEnvC sc cl C X.env) fp) t0 g) (ht : ∀ s H C cl fp, PTs (X.blk s H sc (compEnvC sc cl C X.env) fp) ifs tt) (hk : ∀ s H C cl fp, PE (X.blk s H sc (compEnvC sc cl C X.env) fp) kx tk) (he : ∀ s H C cl fp, PE (X.blk s H sc (compEnvC sc cl C X.env) fp) vx tv) (f0 : ∀ x, foldedSetIterable i0 X.env x = pure x := by intro _; rfl) :
    PS X (.Assign [.Name y py] (.DictComp kx vx [⟨t0, i0, ifs, 0⟩] sc pos) spos) (tAsg (tDc wi g tt tk tv (own.map (·.2))) (gName i)) := by
  refine ⟨fun pins s σ H D I h => ?_⟩
  rw [exec_Assign_Name_used _ _ _ _ sw]
  refine wpAny_bind (wpAny_standAt (wpAny_bind (wpAny_bind (thn (dc_core (Q := fun x H1 => gName i x σ H1 D.nx) (use := some (assign (.Name y py) X.env)) hc hN I hi bk hg ht hk he f0 h fun L C z m H' I' q hn f => stored hN hy hl I' q hn f) fun _ z hq => wpAny_pure (wpAny_pure hq)))))
theorem sw_dict {kx vx : Expr} {gs : List Comprehension} {sc : Scope} {pos py : Pos} {y : Str} {l : Nat} {en : Env} (hk : en.scope.kind = .function) (hy : en.scope.names.lookup y = some .local) (hl : (py.line == pos.line) = true)
    (ha : (sc.names.any fun (n, k) => n == y && (k == .local || k == .cell)) = false) : swapsWith (.DictComp kx vx gs sc pos) (some (.Name y py)) l en = pure true := by
  have e1 : en.kindOf y = some .local := hy
  have e2 : en.blockKind = .function := by unfold Env.blockKind; rw [hk]; rfl
  unfold swapsWith
  simp only [e1, e2, ha, Expr.pos, hl]
  rfl
end
end XV
namespace XV
open PySem PySem.Spec PyProof.Rows L2
section
variable {J : It} {n : Nat} {G : Hp → Prop} {Y : Nat → Hp → V → Hp → Prop}
/-- a dict comprehension over any walk -/
theorem dc_w (w : Walk J n G Y) {g : TG} {tt : TT} {tk tv : TE} {vs : List Nat} {σ : L2.St} {H1 : Hp} {D : Addr} {Qd : Hp → Prop} (Pv : Nat → Hp → Prop) (h0 : Pv 0 (upd H1 D (.dK []))) (hG : ∀ i H, i ≤ n → Pv i H → G H)
    (turn : ∀ i x H H', i < n → Pv i H → Y i H x H' → g x (wipe σ vs) H' fun σ2 H2 => wipe σ2 vs = wipe σ vs ∧ tt σ2 H2 fun b H3 => if b = true then tk σ2 H3 fun y H4 => tv σ2 H4 fun z H5 => ∃ kvs k, y = kV k ∧ H5 D = some (.dK kvs) ∧ kvs.length < sizeLine ∧ Pv (i + 1) (upd H5 D (.dK (putK kvs k z))) else Pv (i + 1) H3)
    (fin : ∀ H, Pv n H → Qd H) : ∃ W : Nat → Nat → Hp → Prop, (∃ m, W 0 m (upd H1 D (.dK []))) ∧ ∀ i m H, W i m H → (J.stop i H ∧ Qd H) ∨ (J.go i H ∧ ∃ Nx : Hp → Prop, (∀ H', Nx H' → ∃ m', m' < m ∧ W (i + 1) m' H') ∧ ∀ x H', J.yld i H x H' → g x (wipe σ vs) H' fun σ2 H2 => wipe σ2 vs = wipe σ vs ∧ tt σ2 H2 fun b H3 =>
        if b = true then tk σ2 H3 fun y H4 => tv σ2 H4 fun z H5 => ∃ kvs k, y = kV k ∧ H5 D = some (.dK kvs) ∧ kvs.length < sizeLine ∧ Nx (upd H5 D (.dK (putK kvs k z))) else Nx H3) := by
  refine ⟨fun i m H => m = n - i ∧ i ≤ n ∧ Pv i H, ⟨n - 0, rfl, Nat.zero_le _, h0⟩, fun i m H ⟨em, hi, pv⟩ => ?_⟩
  rcases Nat.lt_or_ge i n with lt | ge
  · exact .inr ⟨w.goes i H lt (hG i H hi pv), Pv (i + 1), fun H' p' => ⟨n - (i + 1), by omega, rfl, lt, p'⟩, fun x H' y => turn i x H H' lt pv (w.yields i H x H' lt (hG i H hi pv) y)⟩
  · have e : i = n := Nat.le_antisymm hi ge
    subst e
    exact .inl ⟨w.stops H (hG i H hi pv), fin H pv⟩
/-- the outer one of two walks -/
theorem dc2_w (w : Walk J n G Y) {g g1 : TG} {wi1 : TI} {tk tv : TE} {vs vs1 : List Nat} {σ : L2.St} {H1 : Hp} {D : Addr} {Qd : Hp → Prop} (Pv : Nat → Hp → Prop) (h0 : Pv 0 (upd H1 D (.dK []))) (hG : ∀ i H, i ≤ n → Pv i H → G H)
    (turn : ∀ i x H H', i < n → Pv i H → Y i H x H' → g x (wipe σ vs) H' fun σ2 H2 => wipe σ2 vs = wipe σ vs ∧ wi1 σ2 H2 fun J1 H4 => ∃ U : Nat → Nat → Hp → Prop, (∃ m, U 0 m H4) ∧ ∀ j k H, U j k H →
      (J1.stop j H ∧ Pv (i + 1) H) ∨ (J1.go j H ∧ ∃ Ny : Hp → Prop, (∀ H', Ny H' → ∃ k', k' < k ∧ U (j + 1) k' H') ∧ ∀ x H', J1.yld j H x H' → g1 x (wipe σ2 vs1) H' fun σ3 H5 => wipe σ3 vs1 = wipe σ2 vs1 ∧ tk σ3 H5 fun y H6 => tv σ3 H6 fun z H7 => ∃ kvs k, y = kV k ∧ H7 D = some (.dK kvs) ∧ kvs.length < sizeLine ∧ Ny (upd H7 D (.dK (putK kvs k z)))))
    (fin : ∀ H, Pv n H → Qd H) : ∃ W : Nat → Nat → Hp → Prop, (∃ m, W 0 m (upd H1 D (.dK []))) ∧ ∀ i m H, W i m H → (J.stop i H ∧ Qd H) ∨ (J.go i H ∧ ∃ Nx : Hp → Prop, (∀ H', Nx H' → ∃ m', m' < m ∧ W (i + 1) m' H') ∧ ∀ x H', J.yld i H x H' → g x (wipe σ vs) H' fun σ2 H2 => wipe σ2 vs = wipe σ vs ∧
    wi1 σ2 H2 fun J1 H4 => ∃ U : Nat → Nat → Hp → Prop, (∃ m, U 0 m H4) ∧ ∀ j k H, U j k H →
      (J1.stop j H ∧ Nx H) ∨ (J1.go j H ∧ ∃ Ny : Hp → Prop, (∀ H', Ny H' → ∃ k', k' < k ∧ U (j + 1) k' H') ∧ ∀ x H', J1.yld j H x H' → g1 x (wipe σ2 vs1) H' fun σ3 H5 => wipe σ3 vs1 = wipe σ2 vs1 ∧ tk σ3 H5 fun y H6 => tv σ3 H6 fun z H7 => ∃ kvs k, y = kV k ∧ H7 D = some (.dK kvs) ∧ kvs.length < sizeLine ∧ Ny (upd H7 D (.dK (putK kvs k z))))) := by
  refine ⟨fun i m H => m = n - i ∧ i ≤ n ∧ Pv i H, ⟨n - 0, rfl, Nat.zero_le _, h0⟩, fun i m H ⟨em, hi, pv⟩ => ?_⟩
  rcases Nat.lt_or_ge i n with lt | ge
  · exact .inr ⟨w.goes i H lt (hG i H hi pv), Pv (i + 1), fun H' p' => ⟨n - (i + 1), by omega, rfl, lt, p'⟩, fun x H' y => turn i x H H' lt pv (w.yields i H x H' lt (hG i H hi pv) y)⟩
  · have e : i = n := Nat.le_antisymm hi ge
    subst e
    exact .inl ⟨w.stops H (hG i H hi pv), fin H pv⟩
/-- the inner one -/
theorem dc2_in (w : Walk J n G Y) {g1 : TG} {tk tv : TE} {vs1 : List Nat} {σ2 : L2.St} {H4 : Hp} {D : Addr} {Nx : Hp → Prop} (Pv : Nat → Hp → Prop) (h0 : Pv 0 H4) (hG : ∀ i H, i ≤ n → Pv i H → G H)
    (turn : ∀ j x H H', j < n → Pv j H → Y j H x H' → g1 x (wipe σ2 vs1) H' fun σ3 H5 => wipe σ3 vs1 = wipe σ2 vs1 ∧ tk σ3 H5 fun y H6 => tv σ3 H6 fun z H7 => ∃ kvs k, y = kV k ∧ H7 D = some (.dK kvs) ∧ kvs.length < sizeLine ∧ Pv (j + 1) (upd H7 D (.dK (putK kvs k z))))
    (fin : ∀ H, Pv n H → Nx H) : ∃ U : Nat → Nat → Hp → Prop, (∃ m, U 0 m H4) ∧ ∀ j k H, U j k H →
      (J.stop j H ∧ Nx H) ∨ (J.go j H ∧ ∃ Ny : Hp → Prop, (∀ H', Ny H' → ∃ k', k' < k ∧ U (j + 1) k' H') ∧ ∀ x H', J.yld j H x H' → g1 x (wipe σ2 vs1) H' fun σ3 H5 => wipe σ3 vs1 = wipe σ2 vs1 ∧ tk σ3 H5 fun y H6 => tv σ3 H6 fun z H7 => ∃ kvs k, y = kV k ∧ H7 D = some (.dK kvs) ∧ kvs.length < sizeLine ∧ Ny (upd H7 D (.dK (putK kvs k z)))) := by
  refine ⟨fun i m H => m = n - i ∧ i ≤ n ∧ Pv i H, ⟨n - 0, rfl, Nat.zero_le _, h0⟩, fun i m H ⟨em, hi, pv⟩ => ?_⟩
  rcases Nat.lt_or_ge i n with lt | ge
  · exact .inr ⟨w.goes i H lt (hG i H hi pv), Pv (i + 1), fun H' p' => ⟨n - (i + 1), by omega, rfl, lt, p'⟩, fun x H' y => turn i x H H' lt pv (w.yields i H x H' lt (hG i H hi pv) y)⟩
  · have e : i = n := Nat.le_antisymm hi ge
    subst e
    exact .inl ⟨w.stops H (hG i H hi pv), fin H pv⟩
end
end XV
namespace My
open PySem L2 XV
def top (i : Nat) : Stmt := PySem.Challenge.pw_livequill_k71_what_is_reached.main.body.getD i (.Pass ⟨0, 0, 0, 0⟩)
abbrev s_children_of : Stmt := top 14
theorem sc_children_of : FnScope ["store", "number"] ["store", "number"] (defScope s_children_of) := ⟨rfl, rfl, rfl, by decide +kernel, rfl, by decide +kernel, by decide +kernel⟩
abbrev s_numbers_of : Stmt := top 15
theorem sc_numbers_of : FnScope ["values", "value"] ["values"] (defScope s_numbers_of) := ⟨rfl, rfl, rfl, by decide +kernel, rfl, by decide +kernel, by decide +kernel⟩
abbrev s_values_of : Stmt := top 16
theorem sc_values_of : FnScope ["thing", "_", "value"] ["thing"] (defScope s_values_of) := ⟨rfl, rfl, rfl, by decide +kernel, rfl, by decide +kernel, by decide +kernel⟩
abbrev s_roots_of : Stmt := top 17
theorem sc_roots_of : FnScope ["machine", "found", "frame", "_", "scope"] ["machine"] (defScope s_roots_of) := ⟨rfl, rfl, rfl, by decide +kernel, rfl, by decide +kernel, by decide +kernel⟩
abbrev s_reached_from : Stmt := top 19
theorem sc_reached_from : FnScope ["store", "numbers", "reached", "waiting", "number", "child"] ["store", "numbers"] (defScope s_reached_from) := ⟨rfl, rfl, rfl, by decide +kernel, rfl, by decide +kernel, by decide +kernel⟩
abbrev s_lost_objects : Stmt := top 20
theorem sc_lost_objects : FnScope ["machine", "reached", "number"] ["machine"] (defScope s_lost_objects) := ⟨rfl, rfl, rfl, by decide +kernel, rfl, by decide +kernel, by decide +kernel⟩
abbrev s_way_to : Stmt := top 21
theorem sc_way_to : FnScope ["machine", "number", "ahead", "found", "at", "last", "child", "frame", "first"] ["machine", "number"] (defScope s_way_to) := ⟨rfl, rfl, rfl, by decide +kernel, rfl, by decide +kernel, by decide +kernel⟩
abbrev s_way_back : Stmt := top 22
theorem sc_way_back : FnScope ["ahead", "number", "way"] ["ahead", "number"] (defScope s_way_back) := ⟨rfl, rfl, rfl, by decide +kernel, rfl, by decide +kernel, by decide +kernel⟩
abbrev s_law_cell : Stmt := top 37
theorem sc_law_cell : FnScope ["script", "k"] ["script", "k"] (defScope s_law_cell) := ⟨rfl, rfl, rfl, by decide +kernel, rfl, by decide +kernel, by decide +kernel⟩
abbrev s_law_begin : Stmt := top 38
theorem sc_law_begin : FnScope ["script", "k"] ["script", "k"] (defScope s_law_begin) := ⟨rfl, rfl, rfl, by decide +kernel, rfl, by decide +kernel, by decide +kernel⟩
abbrev s_law_draw : Stmt := top 39
theorem sc_law_draw : FnScope ["state", "many", "k", "cell", "prime", "mixed", "digit"] ["state", "many"] (defScope s_law_draw) := ⟨rfl, rfl, rfl, by decide +kernel, rfl, by decide +kernel, by decide +kernel⟩
abbrev s_law_machine : Stmt := top 40
theorem sc_law_machine : FnScope ["state", "machine", "store", "many", "k", "refs", "kind", "j"] ["state"] (defScope s_law_machine) := ⟨rfl, rfl, rfl, by decide +kernel, rfl, by decide +kernel, by decide +kernel⟩
abbrev s_law_refs : Stmt := top 41
theorem sc_law_refs : FnScope ["state", "many", "most", "k"] ["state", "many", "most"] (defScope s_law_refs) := ⟨rfl, rfl, rfl, by decide +kernel, rfl, by decide +kernel, by decide +kernel⟩
abbrev s_law_frames : Stmt := top 42
theorem sc_law_frames : FnScope ["machine", "state", "many", "roots", "scopes", "frames", "k", "scope", "frame", "above", "inner", "stack", "handlers", "ref"] ["machine", "state"] (defScope s_law_frames) := ⟨rfl, rfl, rfl, by decide +kernel, rfl, by decide +kernel, by decide +kernel⟩
abbrev s_law_closed : Stmt := top 43
theorem sc_law_closed : FnScope ["store", "numbers", "found", "number", "k", "child"] ["store", "numbers"] (defScope s_law_closed) := ⟨rfl, rfl, rfl, by decide +kernel, rfl, by decide +kernel, by decide +kernel⟩
abbrev s_law_lengths : Stmt := top 44
theorem sc_law_lengths : FnScope ["store", "scopes", "ways", "order", "number", "k", "child"] ["store", "scopes"] (defScope s_law_lengths) := ⟨rfl, rfl, rfl, by decide +kernel, rfl, by decide +kernel, by decide +kernel⟩
abbrev s_law : Stmt := top 45
theorem sc_law : FnScope ["script", "k", "state", "machine", "store", "roots", "scopes", "many", "told", "numbers", "due", "ways", "number", "j"] ["script"] (defScope s_law) := ⟨rfl, rfl, rfl, by decide +kernel, rfl, by decide +kernel, by decide +kernel⟩
abbrev s_Ref_init : Stmt := inClass (top 2) 0
theorem sc_Ref_init : FnScope ["self", "number"] ["self", "number"] (defScope s_Ref_init) := ⟨rfl, rfl, rfl, by decide +kernel, rfl, by decide +kernel, by decide +kernel⟩
abbrev s_Parts_init : Stmt := inClass (top 4) 0
theorem sc_Parts_init : FnScope ["self", "held"] ["self", "held"] (defScope s_Parts_init) := ⟨rfl, rfl, rfl, by decide +kernel, rfl, by decide +kernel, by decide +kernel⟩
abbrev s_Instance_init : Stmt := inClass (top 7) 0
theorem sc_Instance_init : FnScope ["self", "owner"] ["self", "owner"] (defScope s_Instance_init) := ⟨rfl, rfl, rfl, by decide +kernel, rfl, by decide +kernel, by decide +kernel⟩
abbrev s_Kin_init : Stmt := inClass (top 8) 0
theorem sc_Kin_init : FnScope ["self", "name", "parent"] ["self", "name", "parent"] (defScope s_Kin_init) := ⟨rfl, rfl, rfl, by decide +kernel, rfl, by decide +kernel, by decide +kernel⟩
abbrev s_Closure_init : Stmt := inClass (top 9) 0
theorem sc_Closure_init : FnScope ["self", "number", "wanted", "scope"] ["self", "number", "wanted", "scope"] (defScope s_Closure_init) := ⟨rfl, rfl, rfl, by decide +kernel, rfl, by decide +kernel, by decide +kernel⟩
abbrev s_Variable_init : Stmt := inClass (top 10) 0
theorem sc_Variable_init : FnScope ["self", "value"] ["self", "value"] (defScope s_Variable_init) := ⟨rfl, rfl, rfl, by decide +kernel, rfl, by decide +kernel, by decide +kernel⟩
abbrev s_Chunk_init : Stmt := inClass (top 24) 0
theorem sc_Chunk_init : FnScope ["self", "number", "wanted", "rows", "scopes"] ["self", "number", "wanted", "rows", "scopes"] (defScope s_Chunk_init) := ⟨rfl, rfl, rfl, by decide +kernel, rfl, by decide +kernel, by decide +kernel⟩
abbrev s_Frame_init : Stmt := inClass (top 28) 0
theorem sc_Frame_init : FnScope ["self", "number", "scope"] ["self", "number", "scope"] (defScope s_Frame_init) := ⟨rfl, rfl, rfl, by decide +kernel, rfl, by decide +kernel, by decide +kernel⟩
abbrev s_Store_init : Stmt := inClass (top 33) 0
theorem sc_Store_init : FnScope ["self", "lines"] ["self", "lines"] (defScope s_Store_init) := ⟨rfl, rfl, rfl, by decide +kernel, rfl, by decide +kernel, by decide +kernel⟩
abbrev s_Store_make : Stmt := inClass (top 33) 1
theorem sc_Store_make : FnScope ["self", "thing"] ["self", "thing"] (defScope s_Store_make) := ⟨rfl, rfl, rfl, by decide +kernel, rfl, by decide +kernel, by decide +kernel⟩
abbrev s_Machine_init : Stmt := inClass (top 35) 0
theorem sc_Machine_init : FnScope ["self", "chunks", "lines", "chunk"] ["self", "chunks", "lines"] (defScope s_Machine_init) := ⟨rfl, rfl, rfl, by decide +kernel, rfl, by decide +kernel, by decide +kernel⟩
/-- where the classes stand -/
structure Ads where
  Ref : Addr
  Parts : Addr
  Table : Addr
  Instance : Addr
  Kin : Addr
  Closure : Addr
  Variable : Addr
  Cursor : Addr
  Chunk : Addr
  Frame : Addr
  Store : Addr
  Machine : Addr
structure CF (K : PySem.W.Frag) (mg : Str → Option Value) (C : Addr) (nm : Str) : Prop where
  cl : Cls K C
  g : mg nm = some (.ref C)
  ty : ∀ {H : Hp} {a dx : Addr} {fs : List (Str × V)}, H a = some (.ins C dx fs) → TyX K H (.ref a) (.ref C)
structure Fx (K : PySem.W.Frag) (mg : Str → Option Value) (nm : Str) (st : Stmt) (ps : List Str) where
  f : Addr
  fd : FuncData
  F : Fun K nm nm st f fd
  b : Binds K fd ps []
  g : mg nm = some (.ref f)
structure Mx (K : PySem.W.Frag) (C : Addr) (nm qual : Str) (st : Stmt) (ps : List Str) where
  f : Addr
  fd : FuncData
  F : Fun K nm qual st f fd
  b : Binds K fd ps []
  m : Meth K C nm f
structure Ix (K : PySem.W.Frag) (C : Addr) (qual : Str) (st : Stmt) (ps : List Str) where
  f : Addr
  fd : FuncData
  F : Fun K "__init__" qual st f fd
  b : Binds K fd ps []
  m : Mk K C f
structure OwnEq (K : PySem.W.Frag) (C f : Addr) : Prop where
  at_ : PySem.W.findIn K (.ref C) "__eq__" = some (some (.ref f))
  fn : PySem.W.isFn K (.ref f) = true
structure Qx (K : PySem.W.Frag) (C : Addr) (qual : Str) (st : Stmt) (ps : List Str) where
  f : Addr
  fd : FuncData
  F : Fun K "__eq__" qual st f fd
  b : Binds K fd ps []
  m : OwnEq K C f
structure Tx (K : PySem.W.Frag) (mg : Str → Option Value) (nm : Str) (vs : List V) where
  a : Addr
  g : mg nm = some (.ref a)
  s : ∀ H, SqT K H a vs
structure Gx (mg : Str → Option Value) (C : Addr) (nm : Str) : Prop where
  g : mg nm = some (.ref C)
/-- an __init__ whose last parameter is () if it is not written -/
structure Dx (K : PySem.W.Frag) (C : Addr) (qual : Str) (st : Stmt) (ps : List Str) where
  f : Addr
  e : Addr
  fd : FuncData
  F : FunD K "__init__" qual (defArgs st) (defBody st) (defScope st) [.ref e] [] f fd
  se : ∀ H, SqT K H e []
  ds : List Value
  vd : Vals [.ref e] ds
  b : Binds K fd ps ds
  m : Mk K C f
/-- what the written part says -/
structure Lib (P : Program) (K : PySem.W.Frag) (mg : Str → Option Value) (A : Ads) where
  z_range : mg "range" = none
  z_len : mg "len" = none
  z_int : mg "int" = none
  z_isinstance : mg "isinstance" = none
  z_list : mg "list" = none
  z_tuple : mg "tuple" = none
  z_abs : mg "abs" = none
  z_min : mg "min" = none
  z_max : mg "max" = none
  z_sorted : mg "sorted" = none
  z_reversed : mg "reversed" = none
  c_Ref : CF K mg A.Ref "Ref"
  n_Ref_number : PySem.W.findIn K (.ref A.Ref) "number" = some none
  c_Parts : CF K mg A.Parts "Parts"
  n_Parts_held : PySem.W.findIn K (.ref A.Parts) "held" = some none
  c_Table : CF K mg A.Table "Table"
  c_Instance : CF K mg A.Instance "Instance"
  n_Instance_owner : PySem.W.findIn K (.ref A.Instance) "owner" = some none
  n_Instance_named : PySem.W.findIn K (.ref A.Instance) "named" = some none
  c_Kin : CF K mg A.Kin "Kin"
  n_Kin_name : PySem.W.findIn K (.ref A.Kin) "name" = some none
  n_Kin_parent : PySem.W.findIn K (.ref A.Kin) "parent" = some none
  n_Kin_methods : PySem.W.findIn K (.ref A.Kin) "methods" = some none
  c_Closure : CF K mg A.Closure "Closure"
  n_Closure_number : PySem.W.findIn K (.ref A.Closure) "number" = some none
  n_Closure_wanted : PySem.W.findIn K (.ref A.Closure) "wanted" = some none
  n_Closure_scope : PySem.W.findIn K (.ref A.Closure) "scope" = some none
  c_Variable : CF K mg A.Variable "Variable"
  n_Variable_value : PySem.W.findIn K (.ref A.Variable) "value" = some none
  c_Cursor : CF K mg A.Cursor "Cursor"
  c_Chunk : CF K mg A.Chunk "Chunk"
  n_Chunk_number : PySem.W.findIn K (.ref A.Chunk) "number" = some none
  n_Chunk_wanted : PySem.W.findIn K (.ref A.Chunk) "wanted" = some none
  n_Chunk_rows : PySem.W.findIn K (.ref A.Chunk) "rows" = some none
  n_Chunk_scopes : PySem.W.findIn K (.ref A.Chunk) "scopes" = some none
  c_Frame : CF K mg A.Frame "Frame"
  n_Frame_number : PySem.W.findIn K (.ref A.Frame) "number" = some none
  n_Frame_at : PySem.W.findIn K (.ref A.Frame) "at" = some none
  n_Frame_scope : PySem.W.findIn K (.ref A.Frame) "scope" = some none
  n_Frame_stack : PySem.W.findIn K (.ref A.Frame) "stack" = some none
  n_Frame_handlers : PySem.W.findIn K (.ref A.Frame) "handlers" = some none
  n_Frame_made : PySem.W.findIn K (.ref A.Frame) "made" = some none
  c_Store : CF K mg A.Store "Store"
  n_Store_things : PySem.W.findIn K (.ref A.Store) "things" = some none
  n_Store_output : PySem.W.findIn K (.ref A.Store) "output" = some none
  n_Store_lines : PySem.W.findIn K (.ref A.Store) "lines" = some none
  n_Store_taken : PySem.W.findIn K (.ref A.Store) "taken" = some none
  c_Machine : CF K mg A.Machine "Machine"
  n_Machine_chunks : PySem.W.findIn K (.ref A.Machine) "chunks" = some none
  n_Machine_by_number : PySem.W.findIn K (.ref A.Machine) "by_number" = some none
  n_Machine_store : PySem.W.findIn K (.ref A.Machine) "store" = some none
  n_Machine_steps : PySem.W.findIn K (.ref A.Machine) "steps" = some none
  n_Machine_frames : PySem.W.findIn K (.ref A.Machine) "frames" = some none
  n_Machine_state : PySem.W.findIn K (.ref A.Machine) "state" = some none
  n_Machine_thrown : PySem.W.findIn K (.ref A.Machine) "thrown" = some none
  n_Machine_places : PySem.W.findIn K (.ref A.Machine) "places" = some none
  k_Parts_Variable : PySem.W.kitOne K (.ref A.Parts) (.ref A.Variable) = some false
  k_Instance_Variable : PySem.W.kitOne K (.ref A.Instance) (.ref A.Variable) = some false
  k_Instance_Parts : PySem.W.kitOne K (.ref A.Instance) (.ref A.Parts) = some false
  k_Instance_Cursor : PySem.W.kitOne K (.ref A.Instance) (.ref A.Cursor) = some false
  k_Instance_Table : PySem.W.kitOne K (.ref A.Instance) (.ref A.Table) = some false
  k_Kin_Variable : PySem.W.kitOne K (.ref A.Kin) (.ref A.Variable) = some false
  k_Kin_Parts : PySem.W.kitOne K (.ref A.Kin) (.ref A.Parts) = some false
  k_Kin_Cursor : PySem.W.kitOne K (.ref A.Kin) (.ref A.Cursor) = some false
  k_Kin_Table : PySem.W.kitOne K (.ref A.Kin) (.ref A.Table) = some false
  k_Kin_Instance : PySem.W.kitOne K (.ref A.Kin) (.ref A.Instance) = some false
  k_Closure_Variable : PySem.W.kitOne K (.ref A.Closure) (.ref A.Variable) = some false
  k_Closure_Parts : PySem.W.kitOne K (.ref A.Closure) (.ref A.Parts) = some false
  k_Closure_Cursor : PySem.W.kitOne K (.ref A.Closure) (.ref A.Cursor) = some false
  k_Closure_Table : PySem.W.kitOne K (.ref A.Closure) (.ref A.Table) = some false
  k_Closure_Instance : PySem.W.kitOne K (.ref A.Closure) (.ref A.Instance) = some false
  k_Closure_Kin : PySem.W.kitOne K (.ref A.Closure) (.ref A.Kin) = some false
  k_Machine_Kin : PySem.W.kitOne K (.ref A.Machine) (.ref A.Kin) = some false
  k_Machine_Chunk : PySem.W.kitOne K (.ref A.Machine) (.ref A.Chunk) = some false
  k_NoneType_Ref : PySem.W.kitOne K (.type "NoneType") (.ref A.Ref) = some false
  k_int_Ref : PySem.W.kitOne K (.type "int") (.ref A.Ref) = some false
  k_str_Ref : PySem.W.kitOne K (.type "str") (.ref A.Ref) = some false
  v_ERROR : ∃ t, mg "ERROR" = some (.int 0 t)
  children_of : Fx K mg "children_of" s_children_of ["store", "number"]
  numbers_of : Fx K mg "numbers_of" s_numbers_of ["values"]
  values_of : Fx K mg "values_of" s_values_of ["thing"]
  roots_of : Fx K mg "roots_of" s_roots_of ["machine"]
  reached_from : Fx K mg "reached_from" s_reached_from ["store", "numbers"]
  lost_objects : Fx K mg "lost_objects" s_lost_objects ["machine"]
  way_to : Fx K mg "way_to" s_way_to ["machine", "number"]
  way_back : Fx K mg "way_back" s_way_back ["ahead", "number"]
  law_cell : Fx K mg "_law_cell" s_law_cell ["script", "k"]
  law_begin : Fx K mg "_law_begin" s_law_begin ["script", "k"]
  law_draw : Fx K mg "_law_draw" s_law_draw ["state", "many"]
  law_machine : Fx K mg "_law_machine" s_law_machine ["state"]
  law_refs : Fx K mg "_law_refs" s_law_refs ["state", "many", "most"]
  law_frames : Fx K mg "_law_frames" s_law_frames ["machine", "state"]
  law_closed : Fx K mg "_law_closed" s_law_closed ["store", "numbers"]
  law_lengths : Fx K mg "_law_lengths" s_law_lengths ["store", "scopes"]
  Ref_init : Ix K A.Ref "Ref.__init__" s_Ref_init ["self", "number"]
  Parts_init : Ix K A.Parts "Parts.__init__" s_Parts_init ["self", "held"]
  Instance_init : Ix K A.Instance "Instance.__init__" s_Instance_init ["self", "owner"]
  Kin_init : Ix K A.Kin "Kin.__init__" s_Kin_init ["self", "name", "parent"]
  Closure_init : Ix K A.Closure "Closure.__init__" s_Closure_init ["self", "number", "wanted", "scope"]
  Variable_init : Ix K A.Variable "Variable.__init__" s_Variable_init ["self", "value"]
  Chunk_init : Dx K A.Chunk "Chunk.__init__" s_Chunk_init ["self", "number", "wanted", "rows", "scopes"]
  Frame_init : Ix K A.Frame "Frame.__init__" s_Frame_init ["self", "number", "scope"]
  Store_init : Ix K A.Store "Store.__init__" s_Store_init ["self", "lines"]
  Store_make : Mx K A.Store "make" "Store.make" s_Store_make ["self", "thing"]
  Machine_init : Ix K A.Machine "Machine.__init__" s_Machine_init ["self", "chunks", "lines"]
end My
namespace My
open PySem L2 XV
open C8 (pss_cut tCut cutS_slice pe_gc)
def Keep (p : Addr) (H H' : Hp) : Prop := ∀ b o, H b = some o → b ≠ p → H' b = some o
theorem Same.keep {p : Addr} {H H' : Hp} (s : Same H H') : Keep p H H' := fun b o e _ => s b o e
theorem Keep.trans {p : Addr} {H H1 H2 : Hp} (a : Keep p H H1) (b : Keep p H1 H2) : Keep p H H2 := fun c o e n => b c o (a c o e n) n
theorem keep_upd {p : Addr} {H : Hp} {o : HO} : Keep p H (upd H p o) := fun b x e n => by
  rw [upd_ne n]
  exact e
theorem same_upd {H : Hp} {p : Addr} {o : HO} (h : H p = none) : Same H (upd H p o) := fun b x e => by
  rw [upd_ne (ne_of_none e h)]
  exact e
theorem lk_hit {k : Str} {v : V} {r : List (Str × V)} : ((k, v) :: r).lookup k = some v := by
  simp [List.lookup]
theorem ifF {b : Bool} {A B : Prop} (h : b = false) (q : B) : if b = true then A else B := by
  rw [h]
  exact iteF q
theorem lk_skip {k k' : Str} {v : V} {r : List (Str × V)} (h : (k == k') = false) : ((k', v) :: r).lookup k = r.lookup k := by
  simp [List.lookup, h]
theorem kit_self {K : PySem.W.Frag} (C : Addr) : PySem.W.kitOne K (.ref C) (.ref C) = some true := if_pos (beq_self_eq_true _)
theorem ne_cls {K : PySem.W.Frag} {C D : Addr} (h : PySem.W.kitOne K (.ref C) (.ref D) = some false) : C ≠ D := fun z => by
  rw [z, kit_self] at h
  cases h
theorem sqt_same {K : PySem.W.Frag} {H H' : Hp} {r : Addr} {xs : List V} (s : Same H H') (h : SqT K H r xs) : SqT K H' r xs := by
  rcases h with (h | ⟨ob, h⟩) | h
  · exact .inl (.inl (s _ _ h))
  · exact .inl (.inr ⟨ob, s _ _ h⟩)
  · exact .inr h
theorem Same.put {H H' : Hp} {p : Addr} {o : HO} (s : Same H H') (h : H p = none) : Same H (upd H' p o) := fun b x e => by
  rw [upd_ne (ne_of_none e h)]
  exact s _ _ e
end My
namespace My
open PySem L2 XV
open C8 (pss_cut tCut cutS_slice pe_gc)
/-! ### == between values of which one has its own __eq__ -/
section
variable {prog : Program} {w : World} {A : Around} {E : Value → Shared → Prop} {s : Shared} {K : PySem.W.Frag} {x C L f : Addr} {h₀ : Heap} {m : Str → Option Value} {ox : Obj} {od : Option Obj}
end
/-- the type of a scalar or of an instance -/
inductive TyE (H : Hp) : V → Value → Prop where
  | non : TyE H .non (.type "NoneType")
  | bl (b : Bool) : TyE H (.bl b) (.type "bool")
  | int (i : Int) : TyE H (.int i) (.type "int")
  | str (x : Str) : TyE H (.str x) (.type "str")
  | ins {a C dx : Addr} {fs : List (Str × V)} (e : H a = some (.ins C dx fs)) : TyE H (.ref a) (.ref C)
end My
namespace My
open PySem L2 XV
open C8 (pss_cut tCut cutS_slice pe_gc)
variable {P : Program} {w : World} {K : PySem.W.Frag} {mg : Str → Option Value} {base : Heap} {A : Ads}
def StL (K : PySem.W.Frag) (H : Hp) (a p : Addr) (ns : List Int) : Prop := ∃ x k : Int, H p = some (.lst [.int x, .int k, .ref a]) ∧ 0 ≤ k ∧ SqL K H a (ns.map V.int)
theorem sql_keep {H H' : Hp} {a p : Addr} {x k : Int} {ns : List Int} (hk : Keep p H H') (hp : H p = some (.lst [.int x, .int k, .ref a])) (h : SqL K H a (ns.map V.int)) : SqL K H' a (ns.map V.int) := by
  rcases h with (h | ⟨ob, h⟩) | h
  · refine .inl (.inl (hk _ _ h fun z => ?_))
    rw [z, hp] at h
    have := Option.some.inj h
    injection this with e
    match ns, e with
    | [], e => cases e
    | [_], e => simp at e
    | [_, _], e => simp at e
    | _ :: _ :: _ :: _, e => simp at e
  · refine .inl (.inr ⟨ob, hk _ _ h fun z => ?_⟩)
    rw [z, hp] at h
    cases h
  · exact .inr h
theorem StL.same {H H' : Hp} {a p : Addr} {ns : List Int} (s : Same H H') (h : StL K H a p ns) : StL K H' a p ns := by
  obtain ⟨x, k, h1, h2, h3⟩ := h
  exact ⟨x, k, s _ _ h1, h2, s.seq h3⟩
def spCell (K : PySem.W.Frag) : Sp := fun vs H Q _ => ∃ (a : Addr) (ns : List Int) (k : Int), vs = [.ref a, .int k] ∧ SqL K H a (ns.map V.int) ∧ 0 ≤ k ∧ ∀ c : Int, Q (.int c) H
theorem ok_law_cell (L : Lib P K mg A) : FnOk P w K mg base CX0 1 L.law_cell.f L.law_cell.fd ["script", "k"] (spCell K) := by
  refine L.law_cell.F.ok sc_law_cell (fun vs H Q E h => ?_) (fun cdv A' outer s H vs Q E hr h => ?_)
  · obtain ⟨a, ns, k, rfl, _⟩ := h
    rfl
  · obtain ⟨a, ns, k, rfl, hS, h0, q⟩ := h
    refine ⟨_, pss_cons (ps_if (pt_cmpR op_lt (pv 1) (pe_callB call_len_seq (by rfl) L.z_len PySem.boot_len (pa_cons (pv 0) pa_nil)) (nomark _))
        (pss_one (ps_ret (pe_ix ix_list (pv 0) (pv 1) (fun _ _ => rfl))))
        pss_nil)
      (pss_one (ps_ret pe_int)), ?_⟩
    refine ⟨_, rfl, _, rfl, a, _, rfl, .inl hS, _, _, rfl, rfl, _, rfl, ite2 (fun e => ?_) (fun e => q 0)⟩
    have e1 : k < ((ns.map V.int).length : Nat) := of_decide_eq_true e
    obtain ⟨j, rfl⟩ : ∃ j : Nat, k = (j : Int) := ⟨k.toNat, by omega⟩
    have hj : j < ns.length := by
      rw [List.length_map] at e1
      omega
    refine ⟨_, rfl, _, rfl, a, _, _, V.int ns[j], rfl, rfl, hS, atI_nat ?_, q _⟩
    rw [List.getElem?_map, List.getElem?_eq_getElem hj]
    rfl
def spBegin (K : PySem.W.Frag) : Sp := fun vs H Q _ => ∃ (a : Addr) (ns : List Int) (k : Int), vs = [.ref a, .int k] ∧ SqL K H a (ns.map V.int) ∧ 0 ≤ k ∧ ∀ H' p, H p = none → Same H H' → StL K H' a p ns → Q (.ref p) H'
theorem ok_law_begin (L : Lib P K mg A) : FnOk P w K mg base CX0 1 L.law_begin.f L.law_begin.fd ["script", "k"] (spBegin K) := by
  refine L.law_begin.F.ok sc_law_begin (fun vs H Q E h => ?_) (fun cdv A' outer s H vs Q E hr h => ?_)
  · obtain ⟨a, ns, k, rfl, _⟩ := h
    rfl
  · obtain ⟨a, ns, k, rfl, hS, h0, q⟩ := h
    refine ⟨_, pss_one (ps_ret (pe_lst (pa_cons pe_int (pa_cons (pv 1) (pa_cons (pv 0) pa_nil))))), ?_⟩
    refine ⟨_, rfl, _, rfl, (by show 3 ≤ sizeLine; decide), fun p hp => q _ p hp (same_upd hp) ⟨0, k, upd_same, h0, (same_upd hp).seq hS⟩⟩
def spDraw (K : PySem.W.Frag) : Sp := fun vs H Q _ => ∃ (a p : Addr) (ns : List Int) (many : Int), vs = [.ref p, .int many] ∧ StL K H a p ns ∧ 0 < many ∧ many.natAbs < 2 ^ 80 ∧ ∀ H' (r : Int), Keep p H H' → StL K H' a p ns → 0 ≤ r → r < many → Q (.int r) H'
theorem ok_law_draw (L : Lib P K mg A) : FnOk P w K mg base CX0 2 L.law_draw.f L.law_draw.fd ["state", "many"] (spDraw K) := by
  have GC : FnOk P w K mg base CX0 1 L.law_cell.f L.law_cell.fd ["script", "k"] (spCell K) := ok_law_cell L
  refine L.law_draw.F.ok sc_law_draw (fun vs H Q E h => ?_) (fun cdv A' outer s H vs Q E hr h => ?_)
  · obtain ⟨a, p, ns, many, rfl, _⟩ := h
    rfl
  · obtain ⟨a, p, ns, many, rfl, ⟨x, k, hp, hk, hS⟩, h0, h1, q⟩ := h
    refine ⟨_, pss_cut (ps_if (pt_cmpR op_lt (pe_ix ix_list (pv 0) pe_int (fun _ _ => rfl)) (pv 1) (nomark _))
        (pss_cons (ps_set (i := 2) sc_law_draw.nd rfl (.inl rfl) (pe_ix ix_list (pv 0) pe_int (fun _ _ => rfl)))
        (pss_cons (ps_set (i := 3) sc_law_draw.nd rfl (.inl rfl) (pe_call GC hr (by rfl) L.law_cell.g L.law_cell.F.kp L.law_cell.b .nil pass0 (pa_cons (pe_ix ix_list (pv 0) pe_int (fun _ _ => rfl)) (pa_cons (pv 2) pa_nil))))
        (pss_cons (ps_set (i := 4) sc_law_draw.nd rfl (.inl rfl) pe_int)
        (pss_cons (ps_asg (pe_op op_add (pv 2) pe_int) (pg_sub (pv 0) pe_int set_list))
        (pss_cons (ps_asg (pe_callB call_abs (by rfl) L.z_abs (by decide +kernel) (pa_cons (pv 3) pa_nil)) (pg_sub (pv 0) pe_int set_list))
        (pss_one (ps_if (pt_chain op_lt op_lt (pe_un un_neg pe_int) (pv 3) pe_int)
          (pss_cons (ps_set (i := 5) sc_law_draw.nd rfl (.inl rfl) (pe_op op_mod (pe_callTy call_int1 (by rfl) L.z_int (by decide +kernel) (pa_cons (pe_op op_add (pe_op op_mul (pv 3) pe_int) (pe_op op_mul (pe_op op_add (pv 2) pe_int) pe_int)) pa_nil)) (pv 4)))
          (pss_one (ps_asg (pe_op op_add (pe_op op_mod (pe_callTy call_int1 (by rfl) L.z_int (by decide +kernel) (pa_cons (pe_op op_add (pe_op op_add (pe_op op_mulW (pv 5) (pv 5)) (pe_op op_mul pe_int (pv 5))) (pv 2)) pa_nil)) (pv 4)) (pv 4)) (pg_sub (pv 0) pe_int set_list))))
          pss_nil)))))))
        pss_nil)
      (pss_cons (ps_set (i := 6) sc_law_draw.nd rfl (.inl rfl) (pe_op op_mod (pe_callTy call_int1 (by rfl) L.z_int (by decide +kernel) (pa_cons (pe_ix ix_list (pv 0) pe_int (fun _ _ => rfl)) pa_nil)) (pv 1)))
      (pss_cons (ps_asg (pe_op op_fdivW (pe_ix ix_list (pv 0) pe_int (fun _ _ => rfl)) (pv 1)) (pg_sub (pv 0) pe_int set_list))
      (pss_one (ps_ret (pv 6))))), ?_⟩
    let M : List (Option V) → Hp → Prop := fun σ' H' => ∃ (y2 y3 y4 y5 : Option V) (x k : Int), σ' = [some (.ref p), some (.int many), y2, y3, y4, y5, none] ∧ Keep p H H' ∧ H' p = some (.lst [.int x, .int k, .ref a]) ∧ 0 ≤ k
    refine ⟨M, ⟨_, rfl, p, _, _, _, rfl, rfl, SqL.of hp, rfl, _, rfl, _, _, rfl, rfl, _, rfl, ite2 (fun e => ?_) (fun e => ⟨none, none, none, none, x, k, rfl, fun _ _ e _ => e, hp, hk⟩)⟩, ?_⟩
    · refine ⟨_, rfl, p, _, _, _, rfl, rfl, SqL.of hp, rfl, ?_⟩
      refine ⟨_, rfl, p, _, _, _, rfl, rfl, SqL.of hp, rfl, _, rfl, a, ns, k, rfl, hS, hk, fun cell => ?_⟩
      refine ⟨_, rfl, _, _, rfl, rfl, _, rfl, p, _, _, _, rfl, rfl, hp, rfl, ?_⟩
      refine ⟨_, rfl, _, rfl, _, rfl, p, _, _, _, rfl, rfl, upd_same, rfl, ?_⟩
      have fin : ∀ (z z' : Int) (Hx : Hp), Keep p H Hx → Keep p H (upd Hx p (.lst [.int z, .int z', .ref a])) := fun z z' Hx kx b o e n => by
        rw [upd_ne n]
        exact kx b o e n
      have k0 : Keep p H H := fun _ _ e _ => e
      have kA := fin x (k + 1) H k0
      have kB := fin (if cell < 0 then -cell else cell) (k + 1) _ kA
      have eB : upd (upd H p (.lst [.int x, .int (k + 1), .ref a])) p (.lst [.int (if cell < 0 then -cell else cell), .int (k + 1), .ref a]) p = some (.lst [.int (if cell < 0 then -cell else cell), .int (k + 1), .ref a]) := upd_same
      have done : ∀ (y5 : Option V) (z : Int) (Hx : Hp), Keep p H Hx → Hx p = some (.lst [.int z, .int (k + 1), .ref a]) → M [some (.ref p), some (.int many), some (.int k), some (.int cell), some (.int 618970019642690137449562111), y5, none] Hx := fun y5 z Hx k1 e1 => ⟨_, _, _, _, z, k + 1, rfl, k1, e1, by omega⟩
      refine ⟨_, rfl, _, rfl, _, _, rfl, rfl, _, rfl, ite2 (fun e1 => ⟨_, _, rfl, rfl, _, rfl, ite2 (fun e2 => ?_) (fun _ => done none _ _ kB eB)⟩) (fun _ => ⟨_, rfl, iteF (done none _ _ kB eB)⟩)⟩
      refine ⟨_, rfl, _, _, rfl, rfl, .inr ⟨by decide, by decide⟩, _, rfl, _, _, rfl, rfl, _, _, rfl, rfl, .inr ⟨by decide, by decide⟩, _, _, rfl, rfl, .inl ⟨_, rfl, _, rfl, _, _, rfl, rfl, (by show (0 : Int) < 618970019642690137449562111; decide), ?_⟩⟩
      dsimp only
      have m0 : 0 ≤ (cell * 2654435761 + (k + 1) * 6700417) % 618970019642690137449562111 := Int.emod_nonneg _ (by decide)
      have m1 : (cell * 2654435761 + (k + 1) * 6700417) % 618970019642690137449562111 < 618970019642690137449562111 := Int.emod_lt_of_pos _ (by decide)
      generalize (cell * 2654435761 + (k + 1) * 6700417) % 618970019642690137449562111 = mx at m0 m1 ⊢
      have mb : mx.natAbs < 2 ^ 90 := by
        have : (2 : Nat) ^ 90 = 1237940039285380274899124224 := by decide
        omega
      refine ⟨_, rfl, _, rfl, _, _, rfl, rfl, wide_mul mb mb (by decide) (by decide) (by decide), _, rfl, _, _, rfl, rfl, .inl ⟨by decide, by decide⟩, _, _, rfl, rfl, _, rfl, _, _, rfl, rfl, .inl ⟨_, rfl, _, rfl, _, _, rfl, rfl, (by show (0 : Int) < 618970019642690137449562111; decide), _, rfl, _, _, rfl, rfl, _, rfl, p, _, _, _, rfl, rfl, eB, rfl, ?_⟩⟩
      exact done _ _ _ (fin _ _ _ kB) upd_same
    rintro σ' H' ⟨y2, y3, y4, y5, x', k', rfl, k1, hp', hk'⟩
    refine ⟨_, rfl, p, _, _, _, rfl, rfl, SqL.of hp', rfl, .inl ⟨_, rfl, _, rfl, _, _, rfl, rfl, h0, ?_⟩⟩
    refine ⟨_, rfl, p, _, _, _, rfl, rfl, SqL.of hp', rfl, _, rfl, _, _, rfl, rfl, wide_div h0 h1 (by decide) (by decide), _, rfl, p, _, _, _, rfl, rfl, hp', rfl, ?_⟩
    have k2 : Keep p H (upd H' p (.lst [.int (x' / many), .int k', .ref a])) := fun b o e n => by
      rw [upd_ne n]
      exact k1 b o e n
    exact ⟨_, rfl, q _ _ k2 ⟨_, k', upd_same, hk', sql_keep k2 hp hS⟩ (Int.emod_nonneg _ (by omega)) (Int.emod_lt_of_pos _ h0)⟩
section
variable {P : Program} {w : World} {K : PySem.W.Frag} {mg : Str → Option Value} {base : Heap} {A : Ads}
end
end My
namespace My
open PySem L2 XV
open C8 (pss_cut tCut cutS_slice pe_gc)
theorem Same.made' {H H1 : Hp} {a d : Addr} {u v : HO} (na : H a = none) (nd : H d = none) (k : Keep a (upd (upd H d u) a v) H1) : Same H H1 := fun b x e => by
  have n1 : b ≠ a := ne_of_none e na
  have n2 : b ≠ d := ne_of_none e nd
  exact k _ _ (by rw [upd_ne n1, upd_ne n2]; exact e) n1
section
variable {P : Program} {w : World} {K : PySem.W.Frag} {mg : Str → Option Value} {base : Heap} {A : Ads}
def spI1 (C : Addr) (n : Str) : Sp := fun vs H Q _ => ∃ a dx v, vs = [.ref a, v] ∧ H a = some (.ins C dx []) ∧ ∀ H', Keep a H H' → H' a = some (.ins C dx [(n, v)]) → Q .non H'
theorem ok_Ref_init (L : Lib P K mg A) : FnOk P w K mg base CX0 1 L.Ref_init.f L.Ref_init.fd ["self", "number"] (spI1 A.Ref "number") := by
  refine L.Ref_init.F.ok sc_Ref_init (fun vs H Q E h => ?_) (fun cdv A' outer s H vs Q E hr h => ?_)
  · obtain ⟨a, dx, v, rfl, _⟩ := h
    rfl
  · obtain ⟨a, dx, v, rfl, ha, q⟩ := h
    refine ⟨_, (pss_one (ps_fld (pv 0) (pv 1) rfl)), ?_⟩
    exact ⟨_, rfl, _, rfl, a, A.Ref, dx, [], rfl, ha, L.c_Ref.cl, L.n_Ref_number, (by show 0 < 1000; decide), q _ keep_upd upd_same⟩
theorem ok_Variable_init (L : Lib P K mg A) : FnOk P w K mg base CX0 1 L.Variable_init.f L.Variable_init.fd ["self", "value"] (spI1 A.Variable "value") := by
  refine L.Variable_init.F.ok sc_Variable_init (fun vs H Q E h => ?_) (fun cdv A' outer s H vs Q E hr h => ?_)
  · obtain ⟨a, dx, v, rfl, _⟩ := h
    rfl
  · obtain ⟨a, dx, v, rfl, ha, q⟩ := h
    refine ⟨_, (pss_one (ps_fld (pv 0) (pv 1) rfl)), ?_⟩
    exact ⟨_, rfl, _, rfl, a, A.Variable, dx, [], rfl, ha, L.c_Variable.cl, L.n_Variable_value, (by show 0 < 1000; decide), q _ keep_upd upd_same⟩
def spHI (C : Addr) (n : Str) (K : PySem.W.Frag) : Sp := fun vs H Q _ => ∃ x dx l xs, vs = [.ref x, .ref l] ∧ H x = some (.ins C dx []) ∧ SqL K H l xs ∧ ∀ H' m, Keep x H H' → H' x = some (.ins C dx [(n, .ref m)]) → H m = none → H' m = some (.lst xs) → Q .non H'
theorem ok_Parts_init (L : Lib P K mg A) : FnOk P w K mg base CX0 1 L.Parts_init.f L.Parts_init.fd ["self", "held"] (spHI A.Parts "held" K) := by
  refine L.Parts_init.F.ok sc_Parts_init (fun vs H Q E h => ?_) (fun cdv A' outer s H vs Q E hr h => ?_)
  · obtain ⟨x, dx, l, xs, rfl, _⟩ := h
    rfl
  · obtain ⟨x, dx, l, xs, rfl, hx, hl, q⟩ := h
    refine ⟨_, (pss_one (ps_fld (pv 0) (pe_callTy call_list_of (by rfl) L.z_list (by decide +kernel) (pa_cons (pv 1) pa_nil)) rfl)), ?_⟩
    refine ⟨_, rfl, l, xs, rfl, .inl hl, fun m hm => ⟨_, rfl, x, A.Parts, dx, [], rfl, (by rw [upd_ne (ne_of_none hx hm)]; exact hx), L.c_Parts.cl, L.n_Parts_held, (by show 0 < 1000; decide), ?_⟩⟩
    have nmx : m ≠ x := (ne_of_none hx hm).symm
    exact q _ m (fun b o e n => by rw [upd_ne n, upd_ne (ne_of_none e hm)]; exact e) upd_same hm (by rw [upd_ne nmx]; exact upd_same)
def spKI (A : Ads) : Sp := fun vs H Q _ => ∃ x dx v1 v2, vs = [.ref x, v1, v2] ∧ H x = some (.ins A.Kin dx []) ∧ ∀ H' m, Keep x H H' → H' x = some (.ins A.Kin dx [("name", v1), ("parent", v2), ("methods", .ref m)]) → H m = none → H' m = some (.dK []) → Q .non H'
theorem ok_Kin_init (L : Lib P K mg A) : FnOk P w K mg base CX0 1 L.Kin_init.f L.Kin_init.fd ["self", "name", "parent"] (spKI A) := by
  refine L.Kin_init.F.ok sc_Kin_init (fun vs H Q E h => ?_) (fun cdv A' outer s H vs Q E hr h => ?_)
  · obtain ⟨x, dx, v1, v2, rfl, _⟩ := h
    rfl
  · obtain ⟨x, dx, v1, v2, rfl, hx, q⟩ := h
    refine ⟨_, (pss_cons (ps_fld (pv 0) (pv 1) rfl)
      (pss_cons (ps_fld (pv 0) (pv 2) rfl)
      (pss_one (ps_fld (pv 0) pe_dnewK rfl)))), ?_⟩
    refine ⟨_, rfl, _, rfl, x, A.Kin, dx, _, rfl, hx, L.c_Kin.cl, L.n_Kin_name, (by show 0 < 1000; decide), ?_⟩
    refine ⟨_, rfl, _, rfl, x, A.Kin, dx, _, rfl, upd_same, L.c_Kin.cl, L.n_Kin_parent, (by show 1 < 1000; decide), ?_⟩
    refine fun m hm => ?_
    have nmx : x ≠ m := ne_of_none upd_same hm
    refine ⟨_, rfl, x, A.Kin, dx, _, rfl, (by rw [upd_ne nmx]; exact upd_same), L.c_Kin.cl, L.n_Kin_methods, (by show 2 < 1000; decide), ?_⟩
    refine q _ m (fun b o e n => by rw [upd_ne n, upd_ne (ne_of_none (H := upd (upd H x _) x _) (by rw [upd_ne n, upd_ne n]; exact e) hm), upd_ne n, upd_ne n]; exact e) upd_same ?_ (by rw [upd_ne nmx.symm]; exact upd_same)
    rw [upd_ne nmx.symm, upd_ne nmx.symm] at hm
    exact hm
def spII (A : Ads) : Sp := fun vs H Q _ => ∃ x dx v, vs = [.ref x, v] ∧ H x = some (.ins A.Instance dx []) ∧ ∀ H' m, Keep x H H' → H' x = some (.ins A.Instance dx [("owner", v), ("named", .ref m)]) → H m = none → H' m = some (.dK []) → Q .non H'
theorem ok_Instance_init (L : Lib P K mg A) : FnOk P w K mg base CX0 1 L.Instance_init.f L.Instance_init.fd ["self", "owner"] (spII A) := by
  refine L.Instance_init.F.ok sc_Instance_init (fun vs H Q E h => ?_) (fun cdv A' outer s H vs Q E hr h => ?_)
  · obtain ⟨x, dx, v, rfl, _⟩ := h
    rfl
  · obtain ⟨x, dx, v, rfl, hx, q⟩ := h
    refine ⟨_, (pss_cons (ps_fld (pv 0) (pv 1) rfl)
      (pss_one (ps_fld (pv 0) pe_dnewK rfl))), ?_⟩
    refine ⟨_, rfl, _, rfl, x, A.Instance, dx, _, rfl, hx, L.c_Instance.cl, L.n_Instance_owner, (by show 0 < 1000; decide), ?_⟩
    refine fun m hm => ?_
    have nmx : x ≠ m := ne_of_none upd_same hm
    refine ⟨_, rfl, x, A.Instance, dx, _, rfl, (by rw [upd_ne nmx]; exact upd_same), L.c_Instance.cl, L.n_Instance_named, (by show 1 < 1000; decide), ?_⟩
    refine q _ m (fun b o e n => by rw [upd_ne n, upd_ne (ne_of_none (H := upd H x _) (by rw [upd_ne n]; exact e) hm), upd_ne n]; exact e) upd_same ?_ (by rw [upd_ne nmx.symm]; exact upd_same)
    rw [upd_ne nmx.symm] at hm
    exact hm
def spCI (A : Ads) : Sp := fun vs H Q _ => ∃ x dx v1 v2 v3, vs = [.ref x, v1, v2, v3] ∧ H x = some (.ins A.Closure dx []) ∧ ∀ H', Keep x H H' → H' x = some (.ins A.Closure dx [("number", v1), ("wanted", v2), ("scope", v3)]) → Q .non H'
theorem ok_Closure_init (L : Lib P K mg A) : FnOk P w K mg base CX0 1 L.Closure_init.f L.Closure_init.fd ["self", "number", "wanted", "scope"] (spCI A) := by
  refine L.Closure_init.F.ok sc_Closure_init (fun vs H Q E h => ?_) (fun cdv A' outer s H vs Q E hr h => ?_)
  · obtain ⟨x, dx, v1, v2, v3, rfl, _⟩ := h
    rfl
  · obtain ⟨x, dx, v1, v2, v3, rfl, hx, q⟩ := h
    refine ⟨_, (pss_cons (ps_fld (pv 0) (pv 1) rfl)
      (pss_cons (ps_fld (pv 0) (pv 2) rfl)
      (pss_one (ps_fld (pv 0) (pv 3) rfl)))), ?_⟩
    refine ⟨_, rfl, _, rfl, x, A.Closure, dx, _, rfl, hx, L.c_Closure.cl, L.n_Closure_number, (by show 0 < 1000; decide), ?_⟩
    refine ⟨_, rfl, _, rfl, x, A.Closure, dx, _, rfl, upd_same, L.c_Closure.cl, L.n_Closure_wanted, (by show 1 < 1000; decide), ?_⟩
    refine ⟨_, rfl, _, rfl, x, A.Closure, dx, _, rfl, upd_same, L.c_Closure.cl, L.n_Closure_scope, (by show 2 < 1000; decide), ?_⟩
    exact q _ (fun b o e n => by rw [upd_ne n, upd_ne n, upd_ne n]; exact e) upd_same
/-- a new part is made and a field of the object at a is set -/
structure Two (H H2 : Hp) (t a : Addr) (U I : HO) : Prop where
  kk : ∀ b u, H b = some u → b ≠ a → H2 b = some u
  tt : H2 t = some U
  aa : H2 a = some I
  nn : ∀ b, H2 b = none → H b = none
  na : t ≠ a
  nt : H t = none
theorem two {H : Hp} {t a : Addr} {U I I0 : HO} (nt : H t = none) (ha : H a = some I0) : Two H (upd (upd H t U) a I) t a U I := by
  have nta : t ≠ a := (ne_of_none ha nt).symm
  refine ⟨fun b u e n => by rw [upd_ne n, upd_ne (ne_of_none e nt)]; exact e, by rw [upd_ne nta]; exact upd_same, upd_same, fun b e => ?_, nta, nt⟩
  by_cases h1 : b = a
  · rw [h1, upd_same] at e; cases e
  · rw [upd_ne h1] at e
    by_cases h2 : b = t
    · rw [h2, upd_same] at e; cases e
    · rw [upd_ne h2] at e; exact e
def stF (t o l : Addr) : List (Str × V) := [("things", .ref t), ("output", .ref o), ("lines", .ref l), ("taken", .int 0)]
theorem st_things (t o l : Addr) : (stF t o l).lookup ("things" : Str) = some (.ref t) := lk_hit
def spSI (K : PySem.W.Frag) (A : Ads) : Sp := fun vs H Q _ => ∃ a dx l, vs = [.ref a, .ref l] ∧ H a = some (.ins A.Store dx []) ∧ H l = some (.lst []) ∧ ∀ H' t o m y dy lm, Keep a H H' → H' a = some (.ins A.Store dx (stF t o lm)) → H t = none → H' t = some (.lst [.ref y]) → H' y = some (.ins A.Kin dy [("name", .str "Error"), ("parent", .non), ("methods", .ref m)]) → H' m = some (.dK []) → Q .non H'
theorem ok_Store_init (L : Lib P K mg A) : FnOk P w K mg base CX0 3 L.Store_init.f L.Store_init.fd ["self", "lines"] (spSI K A) := by
  have G_Kin_init : FnOk P w K mg base CX0 1 L.Kin_init.f L.Kin_init.fd ["self", "name", "parent"] (spKI A) := ok_Kin_init L
  refine L.Store_init.F.ok sc_Store_init (fun vs H Q E h => ?_) (fun cdv A' outer s H vs Q E hr h => ?_)
  · obtain ⟨a, dx, l, rfl, _⟩ := h
    rfl
  · obtain ⟨a, dx, l, rfl, ha, hl, q⟩ := h
    have hla : l ≠ a := fun z => by rw [z, ha] at hl; cases hl
    refine ⟨_, (pss_cons (ps_fld (pv 0) (pe_lst (pa_cons (pe_make L.Kin_init.m G_Kin_init (hr.mono (by omega)) (by rfl) L.c_Kin.g L.Kin_init.b .nil pass0 (pa_cons pe_str (pa_cons pe_non pa_nil))) pa_nil)) rfl)
      (pss_cons (ps_fld (pv 0) (pe_lst pa_nil) rfl)
      (pss_cons (ps_fld (pv 0) (pe_callTy call_list_of (by rfl) L.z_list (by decide +kernel) (pa_cons (pv 1) pa_nil)) rfl)
      (pss_one (ps_fld (pv 0) pe_int rfl))))), ?_⟩
    intro y dy ny ndy nyd
    refine ⟨y, dy, _, _, rfl, upd_same, fun H1 m k1 hy nm hm => ⟨rfl, ?_⟩⟩
    have s1 : Same H H1 := Same.made' ny ndy k1
    have ha1 := s1 _ _ ha
    have nya : y ≠ a := fun z => by rw [z, ha] at ny; cases ny
    have nma : m ≠ a := fun z => by rw [z] at hm; rw [ha1] at hm; cases hm
    refine ⟨(by show 1 ≤ sizeLine; decide), fun t nt => ?_⟩
    refine ⟨_, rfl, a, A.Store, dx, [], rfl, (by rw [upd_ne (ne_of_none ha1 nt)]; exact ha1), L.c_Store.cl, L.n_Store_things, (by show 0 < 1000; decide), ?_⟩
    have T1 := two (U := .lst [.ref y]) (I := .ins A.Store dx (putF "things" (V.ref t) [])) nt ha1
    generalize upd (upd H1 t (.lst [V.ref y])) a (.ins A.Store dx (putF "things" (V.ref t) [])) = H2 at T1 ⊢
    refine ⟨Nat.zero_le _, fun o no => ?_⟩
    refine ⟨_, rfl, a, A.Store, dx, _, rfl, (by rw [upd_ne (ne_of_none T1.aa no)]; exact T1.aa), L.c_Store.cl, L.n_Store_output, (by show 1 < 1000; decide), ?_⟩
    have T2 := two (U := .lst []) (I := .ins A.Store dx (putF "output" (V.ref o) (putF "things" (V.ref t) []))) no T1.aa
    generalize upd (upd H2 o (.lst [])) a (.ins A.Store dx (putF "output" (V.ref o) (putF "things" (V.ref t) []))) = H3 at T2 ⊢
    have hl3 : H3 l = some (.lst []) := T2.kk _ _ (T1.kk _ _ (s1 _ _ hl) hla) hla
    refine ⟨_, rfl, l, _, rfl, .inl (SqL.of hl3), fun lm nlm => ?_⟩
    refine ⟨_, rfl, a, A.Store, dx, _, rfl, (by rw [upd_ne (ne_of_none T2.aa nlm)]; exact T2.aa), L.c_Store.cl, L.n_Store_lines, (by show 2 < 1000; decide), ?_⟩
    refine ⟨_, rfl, a, A.Store, dx, _, rfl, upd_same, L.c_Store.cl, L.n_Store_taken, (by show 3 < 1000; decide), ?_⟩
    have T3 := two (U := .lst []) (I := .ins A.Store dx (putF "lines" (V.ref lm) (putF "output" (V.ref o) (putF "things" (V.ref t) [])))) nlm T2.aa
    generalize upd (upd H3 lm (.lst [])) a (.ins A.Store dx (putF "lines" (V.ref lm) (putF "output" (V.ref o) (putF "things" (V.ref t) [])))) = H4 at T3 ⊢
    have kF : ∀ {b : Addr} {u : HO}, H4 b = some u → b ≠ a → upd H4 a (.ins A.Store dx (putF "taken" (V.int 0) (putF "lines" (V.ref lm) (putF "output" (V.ref o) (putF "things" (V.ref t) []))))) b = some u := fun e n => by rw [upd_ne n]; exact e
    have k14 : ∀ {b : Addr} {u : HO}, H1 b = some u → b ≠ a → H4 b = some u := fun e n => T3.kk _ _ (T2.kk _ _ (T1.kk _ _ e n) n) n
    exact q _ t o m y dy lm (fun b u e n => kF (k14 (s1 _ _ e) n) n) upd_same (s1.free nt) (kF (T3.kk _ _ (T2.kk _ _ T1.tt T1.na) T1.na) T1.na) (kF (k14 hy nya) nya) (kF (k14 hm nma) nma)
def frF (v : V) (t k h : Addr) : List (Str × V) := [("number", v), ("at", .int 0), ("scope", .ref t), ("stack", .ref k), ("handlers", .ref h), ("made", .non)]
def spFI (A : Ads) : Sp := fun vs H Q _ => ∃ x dx v t, vs = [.ref x, v, .ref t] ∧ H x = some (.ins A.Frame dx []) ∧ ∀ H' k h, Keep x H H' → H' x = some (.ins A.Frame dx (frF v t k h)) → H k = none → H h = none → k ≠ h → H' k = some (.lst []) → H' h = some (.lst []) → Q .non H'
theorem ok_Frame_init (L : Lib P K mg A) : FnOk P w K mg base CX0 1 L.Frame_init.f L.Frame_init.fd ["self", "number", "scope"] (spFI A) := by
  refine L.Frame_init.F.ok sc_Frame_init (fun vs H Q E h => ?_) (fun cdv A' outer s H vs Q E hr h => ?_)
  · obtain ⟨x, dx, v, t, rfl, _⟩ := h
    rfl
  · obtain ⟨x, dx, v, t, rfl, hx, q⟩ := h
    refine ⟨_, (pss_cons (ps_fld (pv 0) (pv 1) rfl)
      (pss_cons (ps_fld (pv 0) pe_int rfl)
      (pss_cons (ps_fld (pv 0) (pv 2) rfl)
      (pss_cons (ps_fld (pv 0) (pe_lst pa_nil) rfl)
      (pss_cons (ps_fld (pv 0) (pe_lst pa_nil) rfl)
      (pss_one (ps_fld (pv 0) pe_non rfl))))))), ?_⟩
    refine ⟨_, rfl, _, rfl, x, A.Frame, dx, _, rfl, hx, L.c_Frame.cl, L.n_Frame_number, (by show 0 < 1000; decide), ?_⟩
    refine ⟨_, rfl, x, A.Frame, dx, _, rfl, upd_same, L.c_Frame.cl, L.n_Frame_at, (by show 1 < 1000; decide), ?_⟩
    refine ⟨_, rfl, _, rfl, x, A.Frame, dx, _, rfl, upd_same, L.c_Frame.cl, L.n_Frame_scope, (by show 2 < 1000; decide), ?_⟩
    have k3 : ∀ {b : Addr} {u : HO}, H b = some u → b ≠ x → upd (upd (upd H x (.ins A.Frame dx (putF "number" v []))) x (.ins A.Frame dx (putF "at" (V.int 0) (putF "number" v [])))) x (.ins A.Frame dx (putF "scope" (V.ref t) (putF "at" (V.int 0) (putF "number" v [])))) b = some u := fun e n => by rw [upd_ne n, upd_ne n, upd_ne n]; exact e
    have n3 : ∀ {b : Addr}, upd (upd (upd H x (.ins A.Frame dx (putF "number" v []))) x (.ins A.Frame dx (putF "at" (V.int 0) (putF "number" v [])))) x (.ins A.Frame dx (putF "scope" (V.ref t) (putF "at" (V.int 0) (putF "number" v [])))) b = none → H b = none := fun {b} e => by
      by_cases n : b = x
      · rw [n, upd_same] at e; cases e
      · rw [upd_ne n, upd_ne n, upd_ne n] at e; exact e
    have a3 : upd (upd (upd H x (.ins A.Frame dx (putF "number" v []))) x (.ins A.Frame dx (putF "at" (V.int 0) (putF "number" v [])))) x (.ins A.Frame dx (putF "scope" (V.ref t) (putF "at" (V.int 0) (putF "number" v [])))) x = some (.ins A.Frame dx (putF "scope" (V.ref t) (putF "at" (V.int 0) (putF "number" v [])))) := upd_same
    generalize upd (upd (upd H x _) x _) x _ = H3 at k3 n3 a3 ⊢
    refine ⟨Nat.zero_le _, fun k nk => ?_⟩
    refine ⟨_, rfl, x, A.Frame, dx, _, rfl, (by rw [upd_ne (ne_of_none a3 nk)]; exact a3), L.c_Frame.cl, L.n_Frame_stack, (by show 3 < 1000; decide), ?_⟩
    have T1 := two (U := .lst []) (I := .ins A.Frame dx (putF "stack" (V.ref k) (putF "scope" (V.ref t) (putF "at" (V.int 0) (putF "number" v []))))) nk a3
    generalize upd (upd H3 k (.lst [])) x (.ins A.Frame dx (putF "stack" (V.ref k) (putF "scope" (V.ref t) (putF "at" (V.int 0) (putF "number" v []))))) = H4 at T1 ⊢
    refine ⟨Nat.zero_le _, fun h nh => ?_⟩
    refine ⟨_, rfl, x, A.Frame, dx, _, rfl, (by rw [upd_ne (ne_of_none T1.aa nh)]; exact T1.aa), L.c_Frame.cl, L.n_Frame_handlers, (by show 4 < 1000; decide), ?_⟩
    have T2 := two (U := .lst []) (I := .ins A.Frame dx (putF "handlers" (V.ref h) (putF "stack" (V.ref k) (putF "scope" (V.ref t) (putF "at" (V.int 0) (putF "number" v [])))))) nh T1.aa
    generalize upd (upd H4 h (.lst [])) x (.ins A.Frame dx (putF "handlers" (V.ref h) (putF "stack" (V.ref k) (putF "scope" (V.ref t) (putF "at" (V.int 0) (putF "number" v [])))))) = H5 at T2 ⊢
    refine ⟨_, rfl, x, A.Frame, dx, _, rfl, T2.aa, L.c_Frame.cl, L.n_Frame_made, (by show 5 < 1000; decide), ?_⟩
    have kF : ∀ {b : Addr} {u o : HO}, H5 b = some u → b ≠ x → upd H5 x o b = some u := fun e n => by rw [upd_ne n]; exact e
    exact q _ k h (fun b u e n => kF (T2.kk _ _ (T1.kk _ _ (k3 e n) n) n) n) upd_same (n3 nk) (n3 (T1.nn _ nh)) (ne_of_none T1.tt nh) (kF (T2.kk _ _ T1.tt T1.na) T1.na) (kF T2.tt T2.na)
end
end My
namespace My
open PySem L2 XV
open C8 (pss_cut tCut cutS_slice pe_gc)
section
variable {P : Program} {w : World} {K : PySem.W.Frag} {mg : Str → Option Value} {base : Heap} {A : Ads}
theorem sqt_ins {K : PySem.W.Frag} {H H' : Hp} {x r dx C : Addr} {fs : List (Str × V)} {us : List V} (k : Keep x H H') (hx : H x = some (.ins C dx fs)) (h : SqT K H r us) : SqT K H' r us := by
  rcases h with (h | ⟨ob, h⟩) | h
  · exact .inl (.inl (k _ _ h fun z => by rw [z, hx] at h; cases h))
  · exact .inl (.inr ⟨ob, k _ _ h fun z => by rw [z, hx] at h; cases h⟩)
  · exact .inr h
def spCk (K : PySem.W.Frag) (A : Ads) : Sp := fun vs H Q _ => ∃ x dx v1 v2 l us e, vs = [.ref x, v1, v2, .ref l, .ref e] ∧ H x = some (.ins A.Chunk dx []) ∧ H l = some (.lst us) ∧ SqT K H e [] ∧ ∀ H' fs, Keep x H H' → H' x = some (.ins A.Chunk dx (("number", v1) :: fs)) → Q .non H'
theorem ok_Chunk_init (L : Lib P K mg A) : FnOk P w K mg base CX0 1 L.Chunk_init.f L.Chunk_init.fd ["self", "number", "wanted", "rows", "scopes"] (spCk K A) := by
  refine L.Chunk_init.F.ok sc_Chunk_init (fun vs H Q E h => ?_) (fun cdv A' outer s H vs Q E hr h => ?_)
  · obtain ⟨x, dx, v1, v2, l, us, e, rfl, _⟩ := h
    rfl
  · obtain ⟨x, dx, v1, v2, l, us, e, rfl, hx, hl, he, q⟩ := h
    refine ⟨_, (pss_cons (ps_fld (pv 0) (pv 1) rfl)
      (pss_cons (ps_fld (pv 0) (pv 2) rfl)
      (pss_cons (ps_fld (pv 0) (pe_callTy call_list_of (by rfl) L.z_list (by decide +kernel) (pa_cons (pv 3) pa_nil)) rfl)
      (pss_one (ps_fld (pv 0) (pe_callTy call_list_of (by rfl) L.z_list (by decide +kernel) (pa_cons (pv 4) pa_nil)) rfl))))), ?_⟩
    refine ⟨_, rfl, _, rfl, x, A.Chunk, dx, _, rfl, hx, L.c_Chunk.cl, L.n_Chunk_number, (by show 0 < 1000; decide), ?_⟩
    refine ⟨_, rfl, _, rfl, x, A.Chunk, dx, _, rfl, upd_same, L.c_Chunk.cl, L.n_Chunk_wanted, (by show 1 < 1000; decide), ?_⟩
    have nlx : l ≠ x := fun z => by rw [z, hx] at hl; cases hl
    refine ⟨_, rfl, l, us, rfl, .inl (SqL.of (by rw [upd_ne nlx, upd_ne nlx]; exact hl)), fun r nr => ?_⟩
    refine ⟨_, rfl, x, A.Chunk, dx, _, rfl, (by rw [upd_ne (ne_of_none upd_same nr)]; exact upd_same), L.c_Chunk.cl, L.n_Chunk_rows, (by show 2 < 1000; decide), ?_⟩
    have T0 : Keep x H (upd (upd H x (.ins A.Chunk dx (putF "number" v1 []))) x (.ins A.Chunk dx (putF "wanted" v2 (putF "number" v1 [])))) := fun b u e n => by rw [upd_ne n, upd_ne n]; exact e
    have a0 : (upd (upd H x (.ins A.Chunk dx (putF "number" v1 []))) x (.ins A.Chunk dx (putF "wanted" v2 (putF "number" v1 [])))) x = some (.ins A.Chunk dx (putF "wanted" v2 (putF "number" v1 []))) := upd_same
    generalize upd (upd H x _) x _ = H1 at nr T0 a0 ⊢
    have T1 := two (U := .lst us) (I := .ins A.Chunk dx (putF "rows" (V.ref r) (putF "wanted" v2 (putF "number" v1 [])))) nr a0
    generalize upd (upd H1 r (.lst us)) x _ = H2 at T1 ⊢
    have K2 : Keep x H H2 := fun b u z n => T1.kk _ _ (T0 _ _ z n) n
    refine ⟨_, rfl, e, [], rfl, .inr (sqt_ins K2 hx he), fun r2 nr2 => ?_⟩
    refine ⟨_, rfl, x, A.Chunk, dx, _, rfl, (by rw [upd_ne (ne_of_none T1.aa nr2)]; exact T1.aa), L.c_Chunk.cl, L.n_Chunk_scopes, (by show 3 < 1000; decide), ?_⟩
    exact q _ _ (fun b u z n => by rw [upd_ne n, upd_ne (ne_of_none (K2 _ _ z n) nr2)]; exact K2 _ _ z n) upd_same
def mF (c b s f p : Addr) : List (Str × V) := [("chunks", .ref c), ("by_number", .ref b), ("store", .ref s), ("steps", .int 0), ("frames", .ref f), ("state", .str "running"), ("thrown", .non), ("places", .ref p)]
def spMI (K : PySem.W.Frag) (A : Ads) : Sp := fun vs H Q _ => ∃ x dx l ck dk fs n, vs = [.ref x, .ref l, .ref n] ∧ H x = some (.ins A.Machine dx []) ∧ H l = some (.lst [.ref ck]) ∧ H ck = some (.ins A.Chunk dk (("number", .int 0) :: fs)) ∧ H n = some (.lst []) ∧
  ∀ H' c b s f p ds t o lm y dy m fr, Keep x H H' → H' x = some (.ins A.Machine dx (mF c b s f p)) → H' s = some (.ins A.Store ds (stF t o lm)) → H' t = some (.lst [.ref y]) → H' y = some (.ins A.Kin dy [("name", .str "Error"), ("parent", .non), ("methods", .ref m)]) → H' m = some (.dK []) → H' f = some (.lst [.ref fr]) → H t = none → H f = none → t ≠ f → Q .non H'
theorem ok_Machine_init (L : Lib P K mg A) : FnOk P w K mg base CX0 5 L.Machine_init.f L.Machine_init.fd ["self", "chunks", "lines"] (spMI K A) := by
  have G_Store_init : FnOk P w K mg base CX0 3 L.Store_init.f L.Store_init.fd ["self", "lines"] (spSI K A) := ok_Store_init L
  have G_Frame_init : FnOk P w K mg base CX0 1 L.Frame_init.f L.Frame_init.fd ["self", "number", "scope"] (spFI A) := ok_Frame_init L
  refine L.Machine_init.F.ok sc_Machine_init (fun vs H Q E h => ?_) (fun cdv A' outer s H vs Q E hr h => ?_)
  · obtain ⟨x, dx, l, ck, dk, fs, n, rfl, _⟩ := h
    rfl
  · obtain ⟨x, dx, l, ck, dk, fs, n, rfl, hx, hl, hck, hn, q⟩ := h
    refine ⟨_, (pss_cons (ps_fld (pv 0) (pe_callTy call_list_of (by rfl) L.z_list (by decide +kernel) (pa_cons (pv 1) pa_nil)) rfl)
      (pss_cons (ps_fld (pv 0) (pe_dc (own := [("chunk", 3)]) (g := gName 3) (tt := tYes) (by rfl) sc_Machine_init.nd (pi_reversed (by rfl) L.z_reversed (pa_cons (pe_fld (pv 0) rfl) pa_nil)) (blkOk_by (own := [("chunk", 3)]) (N := ["self", "chunks", "lines", "chunk"]) (sc := defScope (inClass (top 35) 0)) (by decide +kernel)) (fun _ _ _ _ _ => by exact (pg_name (i := 3) sc_Machine_init.nd rfl (.inl rfl))) (fun _ _ _ _ _ => by exact pts_nil) (fun _ _ _ _ _ => by exact (show PE _ _ (tFld K _ _) from pe_fld (pv 3) rfl)) (fun _ _ _ _ _ => by exact (pv 3))) rfl)
      (pss_cons (ps_fld (pv 0) (pe_make L.Store_init.m G_Store_init (hr.mono (by omega)) (by rfl) L.c_Store.g L.Store_init.b .nil pass0 (pa_cons (pv 2) pa_nil)) rfl)
      (pss_cons (ps_fld (pv 0) pe_int rfl)
      (pss_cons (ps_fld (pv 0) (pe_lst (pa_cons (pe_make L.Frame_init.m G_Frame_init (hr.mono (by omega)) (by rfl) L.c_Frame.g L.Frame_init.b .nil pass0 (pa_cons pe_int (pa_cons (pe_tup pa_nil) pa_nil))) pa_nil)) rfl)
      (pss_cons (ps_fld (pv 0) pe_str rfl)
      (pss_cons (ps_fld (pv 0) pe_non rfl)
      (pss_one (ps_fld (pv 0) (pe_lst pa_nil) rfl))))))))), ?_⟩
    refine ⟨_, rfl, l, _, rfl, .inl (SqL.of hl), fun c nc => ?_⟩
    refine ⟨_, rfl, x, A.Machine, dx, _, rfl, (by rw [upd_ne (ne_of_none hx nc)]; exact hx), L.c_Machine.cl, L.n_Machine_chunks, (by show 0 < 1000; decide), ?_⟩
    have T1 := two (U := .lst [.ref ck]) (I := .ins A.Machine dx (putF "chunks" (V.ref c) [])) nc hx
    generalize upd (upd H c (.lst [.ref ck])) x _ = H1 at T1 ⊢
    have hck1 : H1 ck = some (.ins A.Chunk dk (("number", .int 0) :: fs)) := T1.kk _ _ hck fun z => by
      rw [z, hx] at hck
      injection hck with e
      injection e with e
      exact ne_cls L.k_Machine_Chunk e
    refine ⟨_, rfl, x, A.Machine, dx, _, _, rfl, T1.aa, L.c_Machine.cl, L.n_Machine_chunks, lk_hit, c, _, rfl, SqL.of T1.tt, fun b nb => ?_⟩
    refine dc_w walk_rev (fun i H' => Same H1 H' ∧ H' b = some (.dK (if i = 0 then [] else [(.inl 0, .ref ck)]))) ⟨same_upd nb, upd_same⟩ (fun i H' _ h => SqL.of (h.1 _ _ T1.tt)) ?_ ?_
    · rintro i v Ha Hb hi ⟨sa, ha⟩ ⟨rfl, hv⟩
      have hi0 : i = 0 := by simpa using hi
      subst hi0
      cases hv
      refine ⟨rfl, _, rfl, ck, A.Chunk, dk, _, _, rfl, sa _ _ hck1, L.c_Chunk.cl, L.n_Chunk_number, lk_hit, _, rfl, [], .inl 0, rfl, ha, by decide, ?_, ?_⟩
      · exact My.Same.put sa nb
      · exact upd_same
    intro H2 ⟨s2, hb2⟩
    have hx2 := s2 _ _ T1.aa
    have k2 : Keep x H H2 := fun b u e n => s2 _ _ (T1.kk _ _ e n)
    refine ⟨_, rfl, x, A.Machine, dx, _, rfl, hx2, L.c_Machine.cl, L.n_Machine_by_number, (by show 1 < 1000; decide), ?_⟩
    have k3 : Keep x H (upd H2 x (.ins A.Machine dx (putF "by_number" (V.ref b) (putF "chunks" (V.ref c) [])))) := k2.trans keep_upd
    have hx3 : upd H2 x (.ins A.Machine dx (putF "by_number" (V.ref b) (putF "chunks" (V.ref c) []))) x = some (.ins A.Machine dx (putF "by_number" (V.ref b) (putF "chunks" (V.ref c) []))) := upd_same
    generalize upd H2 x _ = H3 at k3 hx3 ⊢
    have nn : n ≠ x := fun z => by rw [z, hx] at hn; cases hn
    have hn3 := k3 _ _ hn nn
    refine ⟨_, rfl, ?_⟩
    intro st ds ns nds nsd
    refine ⟨st, ds, n, rfl, upd_same, (by rw [upd_ne (ne_of_none hn3 ns), upd_ne (ne_of_none hn3 nds)]; exact hn3), fun H4 t o m y dy lm k4 hs4 nt ht hy hm => ⟨rfl, ?_⟩⟩
    have s4 : Same H3 H4 := Same.made' ns nds k4
    have ok0 : ∀ {b : Addr}, H3 b = none → H b = none := fun {b} e => by
      cases z : H b with
      | none => rfl
      | some u =>
        by_cases bx : b = x
        · rw [bx, hx3] at e; cases e
        · rw [k3 _ _ z bx] at e; cases e
    have nt3 : H3 t = none := by
      by_cases z1 : t = st
      · rw [z1]; exact ns
      · by_cases z2 : t = ds
        · rw [z2]; exact nds
        · rw [upd_ne z1, upd_ne z2] at nt; exact nt
    have hx4 := s4 _ _ hx3
    have stx : st ≠ x := fun z => by rw [z, hx3] at ns; cases ns
    have tx : t ≠ x := fun z => by rw [z, hx3] at nt3; cases nt3
    have yx : y ≠ x := fun z => by
      rw [z, hx4] at hy
      injection hy with e
      injection e with e
      exact ne_cls L.k_Machine_Kin e
    have mx : m ≠ x := fun z => by rw [z, hx4] at hm; cases hm
    have kst : ∀ {H' : Hp}, Keep x H4 H' → H' st = some (.ins A.Store ds (stF t o lm)) ∧ H' t = some (.lst [.ref y]) ∧ H' y = some (.ins A.Kin dy [("name", .str "Error"), ("parent", .non), ("methods", .ref m)]) ∧ H' m = some (.dK []) := fun k => ⟨k _ _ hs4 stx, k _ _ ht tx, k _ _ hy yx, k _ _ hm mx⟩
    refine ⟨_, rfl, x, A.Machine, dx, _, rfl, hx4, L.c_Machine.cl, L.n_Machine_store, (by show 2 < 1000; decide), ?_⟩
    refine ⟨_, rfl, x, A.Machine, dx, _, rfl, upd_same, L.c_Machine.cl, L.n_Machine_steps, (by show 3 < 1000; decide), ?_⟩
    have k5 : Keep x H4 (upd (upd H4 x (.ins A.Machine dx (putF "store" (V.ref st) (putF "by_number" (V.ref b) (putF "chunks" (V.ref c) []))))) x (.ins A.Machine dx (putF "steps" (V.int 0) (putF "store" (V.ref st) (putF "by_number" (V.ref b) (putF "chunks" (V.ref c) [])))))) := keep_upd.trans keep_upd
    have hx5 : upd (upd H4 x (.ins A.Machine dx (putF "store" (V.ref st) (putF "by_number" (V.ref b) (putF "chunks" (V.ref c) []))))) x (.ins A.Machine dx (putF "steps" (V.int 0) (putF "store" (V.ref st) (putF "by_number" (V.ref b) (putF "chunks" (V.ref c) []))))) x = some (.ins A.Machine dx (putF "steps" (V.int 0) (putF "store" (V.ref st) (putF "by_number" (V.ref b) (putF "chunks" (V.ref c) []))))) := upd_same
    generalize upd (upd H4 x _) x _ = H5 at k5 hx5 ⊢
    refine ⟨Nat.zero_le _, fun T nT => ?_⟩
    intro fr dfr nfr ndfr nfd
    refine ⟨fr, dfr, .int 0, T, rfl, upd_same, fun H7 k h k7 hfr nk nh nkh hk hh => ⟨rfl, ?_⟩⟩
    have s7 : Same (upd H5 T (.tup [])) H7 := Same.made' nfr ndfr k7
    have s57 : Same H5 H7 := (same_upd nT).trans s7
    have hx7 := s57 _ _ hx5
    refine ⟨(by show 1 ≤ sizeLine; decide), fun f nf => ?_⟩
    refine ⟨_, rfl, x, A.Machine, dx, _, rfl, (by rw [upd_ne (ne_of_none hx7 nf)]; exact hx7), L.c_Machine.cl, L.n_Machine_frames, (by show 4 < 1000; decide), ?_⟩
    have T8 := two (U := .lst [.ref fr]) (I := .ins A.Machine dx (putF "frames" (V.ref f) (putF "steps" (V.int 0) (putF "store" (V.ref st) (putF "by_number" (V.ref b) (putF "chunks" (V.ref c) [])))))) nf hx7
    generalize upd (upd H7 f (.lst [.ref fr])) x _ = H8 at T8 ⊢
    refine ⟨_, rfl, x, A.Machine, dx, _, rfl, T8.aa, L.c_Machine.cl, L.n_Machine_state, (by show 5 < 1000; decide), ?_⟩
    refine ⟨_, rfl, x, A.Machine, dx, _, rfl, upd_same, L.c_Machine.cl, L.n_Machine_thrown, (by show 6 < 1000; decide), ?_⟩
    have k9 : ∀ {I1 I2 : HO}, Keep x H8 (upd (upd H8 x I1) x I2) := keep_upd.trans keep_upd
    have k9 := k9 (I1 := .ins A.Machine dx (putF "state" (V.str "running") (putF "frames" (V.ref f) (putF "steps" (V.int 0) (putF "store" (V.ref st) (putF "by_number" (V.ref b) (putF "chunks" (V.ref c) []))))))) (I2 := .ins A.Machine dx (putF "thrown" V.non (putF "state" (V.str "running") (putF "frames" (V.ref f) (putF "steps" (V.int 0) (putF "store" (V.ref st) (putF "by_number" (V.ref b) (putF "chunks" (V.ref c) []))))))))
    have hx9 : upd (upd H8 x (.ins A.Machine dx (putF "state" (V.str "running") (putF "frames" (V.ref f) (putF "steps" (V.int 0) (putF "store" (V.ref st) (putF "by_number" (V.ref b) (putF "chunks" (V.ref c) [])))))))) x (.ins A.Machine dx (putF "thrown" V.non (putF "state" (V.str "running") (putF "frames" (V.ref f) (putF "steps" (V.int 0) (putF "store" (V.ref st) (putF "by_number" (V.ref b) (putF "chunks" (V.ref c) [])))))))) x = _ := upd_same
    generalize upd (upd H8 x _) x _ = H9 at k9 hx9 ⊢
    refine ⟨Nat.zero_le _, fun p np => ?_⟩
    refine ⟨_, rfl, x, A.Machine, dx, _, rfl, (by rw [upd_ne (ne_of_none hx9 np)]; exact hx9), L.c_Machine.cl, L.n_Machine_places, (by show 7 < 1000; decide), ?_⟩
    have T10 := two (U := .lst []) (I := .ins A.Machine dx (mF c b st f p)) np hx9
    have k410 : Keep x H4 (upd (upd H9 p (.lst [])) x (.ins A.Machine dx (mF c b st f p))) := ((k5.trans fun b u e n => T8.kk _ _ (s57 _ _ e) n).trans k9).trans fun b u e n => T10.kk _ _ e n
    obtain ⟨q1, q2, q3, q4⟩ := kst k410
    have nf5 := s57.free nf
    have nf4 : H4 f = none := by
      cases z : H4 f with
      | none => rfl
      | some u =>
        by_cases fx : f = x
        · rw [fx, hx5] at nf5; cases nf5
        · rw [k5 _ _ z fx] at nf5; cases nf5
    exact q _ c b st f p ds t o lm y dy m fr (k3.trans fun b u e n => k410 _ _ (s4 _ _ e) n) T10.aa q1 q2 q3 q4 (T10.kk _ _ (k9 _ _ T8.tt T8.na) T8.na) (ok0 nt3) (ok0 (s4.free nf4)) (ne_of_none ht nf4)
end
end My
namespace My
open PySem L2 XV
open C8 (pss_cut tCut cutS_slice pe_gc)
def numV (l : List Nat) : List V := l.map fun n => V.int ((n : Nat) : Int)
theorem numV_len (l : List Nat) : (numV l).length = l.length := List.length_map ..
theorem numV_app (a b : List Nat) : numV a ++ numV b = numV (a ++ b) := List.map_append.symm
/-- a value: the object of that number, or none -/
def Vl (A : Ads) (H : Hp) (v : V) : Option Nat → Prop
  | some n => ∃ a dx, v = .ref a ∧ H a = some (.ins A.Ref dx [("number", .int ((n : Nat) : Int))])
  | none => v = .non ∨ v = .int 7 ∨ v = .str "x"
def Vls (A : Ads) (H : Hp) : List V → List (Option Nat) → Prop
  | [], [] => True
  | v :: vs, o :: os => Vl A H v o ∧ Vls A H vs os
  | _, _ => False
theorem Vl.keep {A : Ads} {H H' : Hp} (s : ∀ a dx fs, H a = some (.ins A.Ref dx fs) → H' a = some (.ins A.Ref dx fs)) {v : V} : ∀ {o : Option Nat}, Vl A H v o → Vl A H' v o
  | some _, ⟨a, dx, e, h⟩ => ⟨a, dx, e, s _ _ _ h⟩
  | none, h => h
theorem Vls.keep {A : Ads} {H H' : Hp} (s : ∀ a dx fs, H a = some (.ins A.Ref dx fs) → H' a = some (.ins A.Ref dx fs)) : ∀ {vs : List V} {os : List (Option Nat)}, Vls A H vs os → Vls A H' vs os
  | [], [], _ => trivial
  | _ :: _, _ :: _, ⟨h, r⟩ => ⟨h.keep s, r.keep s⟩
  | [], _ :: _, h => h.elim
  | _ :: _, [], h => h.elim
theorem Vls.same {A : Ads} {H H' : Hp} (s : Same H H') {vs : List V} {os : List (Option Nat)} (h : Vls A H vs os) : Vls A H' vs os := h.keep fun _ _ _ e => s _ _ e
theorem Vls.len {A : Ads} {H : Hp} : ∀ {vs : List V} {os : List (Option Nat)}, Vls A H vs os → vs.length = os.length
  | [], [], _ => rfl
  | _ :: _, _ :: _, ⟨_, r⟩ => congrArg (· + 1) r.len
  | [], _ :: _, h => h.elim
  | _ :: _, [], h => h.elim
theorem Vls.at {A : Ads} {H : Hp} : ∀ {vs : List V} {os : List (Option Nat)} {i : Nat} {v : V}, Vls A H vs os → vs[i]? = some v → ∃ o, os[i]? = some o ∧ Vl A H v o
  | [], [], _, _, _, e => by simp at e
  | _ :: _, o :: _, 0, _, ⟨h, _⟩, e => by cases e; exact ⟨o, rfl, h⟩
  | _ :: _, _ :: _, i + 1, _, ⟨_, r⟩, e => r.at (i := i) (by simpa using e)
  | [], _ :: _, _, _, h, _ => h.elim
  | _ :: _, [], _, _, h, _ => h.elim
theorem Vls.app {A : Ads} {H : Hp} : ∀ {vs us : List V} {os ps : List (Option Nat)}, Vls A H vs os → Vls A H us ps → Vls A H (vs ++ us) (os ++ ps)
  | [], _, [], _, _, h => h
  | _ :: _, _, _ :: _, _, ⟨h, r⟩, k => ⟨h, r.app k⟩
  | [], _, _ :: _, _, h, _ => h.elim
  | _ :: _, _, [], _, h, _ => h.elim
/-- the numbers of the objects among them -/
def nums (os : List (Option Nat)) : List Nat := os.filterMap id
theorem nums_app (a b : List (Option Nat)) : nums (a ++ b) = nums a ++ nums b := List.filterMap_append
theorem nums_some (l : List Nat) : nums (l.map some) = l := by
  unfold nums
  rw [List.filterMap_map]
  exact List.filterMap_some
theorem nums_take {os : List (Option Nat)} {i : Nat} {o : Option Nat} (h : os[i]? = some o) : nums (os.take (i + 1)) = nums (os.take i) ++ o.toList := by
  rw [List.take_add_one, h, nums_app]
  cases o <;> rfl
theorem nums_le (os : List (Option Nat)) : (nums os).length ≤ os.length := List.length_filterMap_le _ _
section
variable {P : Program} {w : World} {K : PySem.W.Frag} {mg : Str → Option Value} {base : Heap} {A : Ads}
theorem vl_ty (L : Lib P K mg A) {H : Hp} {v : V} {o : Option Nat} (h : Vl A H v o) : ∃ t, TyX K H v t ∧ PySem.W.kitOne K t (.ref A.Ref) = some o.isSome := by
  cases o with
  | some n =>
    obtain ⟨a, dx, rfl, h⟩ := h
    exact ⟨_, L.c_Ref.ty h, kit_self _⟩
  | none =>
    rcases h with rfl | rfl | rfl
    · exact ⟨_, .base .non, L.k_NoneType_Ref⟩
    · exact ⟨_, .base (.int _), L.k_int_Ref⟩
    · exact ⟨_, .base (.str _), L.k_str_Ref⟩
def spNum (K : PySem.W.Frag) (A : Ads) (T : Bool) : Sp := fun vs H Q _ => ∃ l us os, vs = [.ref l] ∧ (if T = true then SqT K H l us else SqL K H l us) ∧ Vls A H us os ∧ us.length ≤ 100 ∧ ∀ H' r, Same H H' → H r = none → H' r = some (.lst (numV (nums os))) → Q (.ref r) H'
theorem ok_numbers_of (L : Lib P K mg A) : FnOk P w K mg base CX0 1 L.numbers_of.f L.numbers_of.fd ["values"] (spNum K A false) := by
  refine L.numbers_of.F.ok sc_numbers_of (fun vs H Q E h => ?_) (fun cdv A' outer s H vs Q E hr h => ?_)
  · obtain ⟨l, us, os, rfl, _⟩ := h
    rfl
  · obtain ⟨l, us, os, rfl, hl, hv, hn, q⟩ := h
    refine ⟨_, (pss_one (ps_ret (pe_lc (own := [("value", 1)]) (g := gName 1) (by rfl) sc_numbers_of.nd (pi_list (pv 0)) (blkOk_by (own := [("value", 1)]) (N := ["values", "value"]) (sc := defScope (top 15)) (by decide +kernel)) (fun _ _ _ _ _ => (pg_name (i := 1) sc_numbers_of.nd rfl (.inl rfl))) (fun _ _ _ _ _ => pts_one (pt_val (pe_callB (show CallR _ (.builtin "isinstance") (rIsi K) from call_isi) (by rfl) L.z_isinstance (by decide +kernel) (pa_cons (pv 1) (pa_cons (pe_gc (v := .ref A.Ref) (by rfl) ⟨_, L.c_Ref.g, rfl⟩) pa_nil))))) (fun _ _ _ _ _ => (show PE _ _ (tFld K _ _) from pe_fld (pv 1) rfl))))), ?_⟩
    have ls : ∀ {H' : Hp}, Same H H' → SqL K H' l us := fun s => by
      rcases hl with (h | ⟨ob, h⟩) | h
      · exact .inl (.inl (s _ _ h))
      · exact .inl (.inr ⟨ob, s _ _ h⟩)
      · exact .inr h
    have hln := hv.len
    refine ⟨_, rfl, l, rfl, ⟨us, hl⟩, fun D nD => ?_⟩
    refine lc_list (K := K) (a := l) (xs := us) (fun i H' => Same H H' ∧ H' D = some (.lst (numV (nums (os.take i))))) ⟨same_upd nD, upd_same⟩ (fun i H' _ h => ls h.1) ?_ ?_
    · rintro i v Hi hi ⟨si, ei⟩
      obtain ⟨o, ho, hvo⟩ := (hv.same si).at hi
      obtain ⟨ty, hty, hk⟩ := vl_ty L hvo
      have hn2 := nums_le (os.take i)
      rw [List.length_take] at hn2
      rw [nums_take ho]
      refine ⟨rfl, ?_⟩
      refine ⟨_, rfl, v, .ref A.Ref, _, .ref A.Ref, _, rfl, .own _, hty, hk, _, rfl, ?_⟩
      cases o with
      | none => exact iteF ⟨si, by rw [ei]; simp⟩
      | some n =>
        obtain ⟨a, dx, rfl, ha⟩ := hvo
        refine iteT ⟨_, rfl, a, A.Ref, dx, _, _, rfl, ha, L.c_Ref.cl, L.n_Ref_number, lk_hit, _, ei, ?_, ?_, ?_⟩
        · unfold numV
          rw [List.length_map]
          exact Nat.lt_of_le_of_lt (m := 1000) (by omega) (by decide)
        · exact My.Same.put si nD
        · rw [upd_same]
          unfold numV
          rw [List.map_append]
          rfl
    · rintro Hi ⟨si, ei⟩
      rw [List.take_of_length_le (by omega)] at ei
      exact q Hi D si nD ei
theorem ok_numbers_ofT (L : Lib P K mg A) : FnOk P w K mg base CX0 1 L.numbers_of.f L.numbers_of.fd ["values"] (spNum K A true) := by
  refine L.numbers_of.F.ok sc_numbers_of (fun vs H Q E h => ?_) (fun cdv A' outer s H vs Q E hr h => ?_)
  · obtain ⟨l, us, os, rfl, _⟩ := h
    rfl
  · obtain ⟨l, us, os, rfl, hl, hv, hn, q⟩ := h
    have hl : SqT K H l us := hl
    refine ⟨_, (pss_one (ps_ret (pe_lc (own := [("value", 1)]) (g := gName 1) (by rfl) sc_numbers_of.nd (pi_tup (pv 0)) (blkOk_by (own := [("value", 1)]) (N := ["values", "value"]) (sc := defScope (top 15)) (by decide +kernel)) (fun _ _ _ _ _ => (pg_name (i := 1) sc_numbers_of.nd rfl (.inl rfl))) (fun _ _ _ _ _ => pts_one (pt_val (pe_callB (show CallR _ (.builtin "isinstance") (rIsi K) from call_isi) (by rfl) L.z_isinstance (by decide +kernel) (pa_cons (pv 1) (pa_cons (pe_gc (v := .ref A.Ref) (by rfl) ⟨_, L.c_Ref.g, rfl⟩) pa_nil))))) (fun _ _ _ _ _ => (show PE _ _ (tFld K _ _) from pe_fld (pv 1) rfl))))), ?_⟩
    have hln := hv.len
    refine ⟨_, rfl, l, rfl, ⟨us, hl⟩, fun D nD => ?_⟩
    refine lc_tup (K := K) (a := l) (xs := us) (fun i H' => Same H H' ∧ H' D = some (.lst (numV (nums (os.take i))))) ⟨same_upd nD, upd_same⟩ (fun i H' _ h => sqt_same h.1 hl) ?_ ?_
    · rintro i v Hi hi ⟨si, ei⟩
      obtain ⟨o, ho, hvo⟩ := (hv.same si).at hi
      obtain ⟨ty, hty, hk⟩ := vl_ty L hvo
      have hn2 := nums_le (os.take i)
      rw [List.length_take] at hn2
      rw [nums_take ho]
      refine ⟨rfl, ?_⟩
      refine ⟨_, rfl, v, .ref A.Ref, _, .ref A.Ref, _, rfl, .own _, hty, hk, _, rfl, ?_⟩
      cases o with
      | none => exact iteF ⟨si, by rw [ei]; simp⟩
      | some n =>
        obtain ⟨a, dx, rfl, ha⟩ := hvo
        refine iteT ⟨_, rfl, a, A.Ref, dx, _, _, rfl, ha, L.c_Ref.cl, L.n_Ref_number, lk_hit, _, ei, ?_, ?_, ?_⟩
        · unfold numV
          rw [List.length_map]
          exact Nat.lt_of_le_of_lt (m := 1000) (by omega) (by decide)
        · exact My.Same.put si nD
        · rw [upd_same]
          unfold numV
          rw [List.map_append]
          rfl
    · rintro Hi ⟨si, ei⟩
      rw [List.take_of_length_le (by omega)] at ei
      exact q Hi D si nD ei
end
end My
namespace My
open PySem L2 XV
open C8 (pss_cut tCut cutS_slice pe_gc)
/-- what the object at x refers to -/
inductive ThC (A : Ads) (H : Hp) (x : Addr) : List (Option Nat) → Prop
  | kin (dx m : Addr) (h : H x = some (.ins A.Kin dx [("name", .str "Error"), ("parent", .non), ("methods", .ref m)])) (hm : H m = some (.dK [])) : ThC A H x [none]
  | var (dx : Addr) (v : V) (o : Option Nat) (h : H x = some (.ins A.Variable dx [("value", v)])) (hv : Vl A H v o) : ThC A H x [o]
  | inst (dx m : Addr) (v : V) (o : Option Nat) (h : H x = some (.ins A.Instance dx [("owner", v), ("named", .ref m)])) (hm : H m = some (.dK [])) (hv : Vl A H v o) : ThC A H x [o]
  | clo (dx t : Addr) (v1 v2 : V) (us : List V) (os : List (Option Nat)) (h : H x = some (.ins A.Closure dx [("number", v1), ("wanted", v2), ("scope", .ref t)])) (ht : H t = some (.tup us)) (hu : Vls A H us os) (le : os.length ≤ 10) : ThC A H x os
  | parts (dx l : Addr) (us : List V) (os : List (Option Nat)) (h : H x = some (.ins A.Parts dx [("held", .ref l)])) (hl : H l = some (.lst us)) (hu : Vls A H us os) (le : os.length ≤ 10) : ThC A H x os
theorem ThC.same {A : Ads} {H H' : Hp} {x : Addr} {os : List (Option Nat)} (s : Same H H') : ThC A H x os → ThC A H' x os
  | .kin dx m h hm => .kin dx m (s _ _ h) (s _ _ hm)
  | .var dx v o h hv => .var dx v o (s _ _ h) (hv.keep fun _ _ _ e => s _ _ e)
  | .inst dx m v o h hm hv => .inst dx m v o (s _ _ h) (s _ _ hm) (hv.keep fun _ _ _ e => s _ _ e)
  | .clo dx t v1 v2 us os h ht hu le => .clo dx t v1 v2 us os (s _ _ h) (s _ _ ht) (hu.same s) le
  | .parts dx l us os h hl hu le => .parts dx l us os (s _ _ h) (s _ _ hl) (hu.same s) le
theorem ThC.le {A : Ads} {H : Hp} {x : Addr} {os : List (Option Nat)} : ThC A H x os → os.length ≤ 10
  | .kin .. => by simp
  | .var .. => by simp
  | .inst .. => by simp
  | .clo _ _ _ _ _ _ _ _ _ le => le
  | .parts _ _ _ _ _ _ _ le => le
section
variable {P : Program} {w : World} {K : PySem.W.Frag} {mg : Str → Option Value} {base : Heap} {A : Ads}
def spVal (A : Ads) : Sp := fun vs H Q _ => ∃ x os, vs = [.ref x] ∧ ThC A H x os ∧ ∀ H' r us, Same H H' → H r = none → H' r = some (.lst us) → Vls A H' us os → Q (.ref r) H'
theorem ok_values_of (L : Lib P K mg A) : FnOk P w K mg base CX0 1 L.values_of.f L.values_of.fd ["thing"] (spVal A) := by
  refine L.values_of.F.ok sc_values_of (fun vs H Q E h => ?_) (fun cdv A' outer s H vs Q E hr h => ?_)
  · obtain ⟨x, os, rfl, _⟩ := h
    rfl
  · obtain ⟨x, os, rfl, hx, q⟩ := h
    refine ⟨_, (pss_cons (ps_if (pt_val (pe_callB call_isi (by rfl) L.z_isinstance (by decide +kernel) (pa_cons (pv 0) (pa_cons (pe_gc (v := .ref A.Variable) (by rfl) ⟨_, L.c_Variable.g, rfl⟩) pa_nil))))
        (pss_one (ps_ret (pe_lst (pa_cons (pe_fld (pv 0) rfl) pa_nil))))
        pss_nil)
      (pss_cons (ps_if (pt_val (pe_callB call_isi (by rfl) L.z_isinstance (by decide +kernel) (pa_cons (pv 0) (pa_cons (pe_gc (v := .ref A.Parts) (by rfl) ⟨_, L.c_Parts.g, rfl⟩) pa_nil))))
        (pss_one (ps_ret (pe_callTy call_list_of (by rfl) L.z_list (by decide +kernel) (pa_cons (pe_fld (pv 0) rfl) pa_nil))))
        pss_nil)
      (pss_cons (ps_if (pt_val (pe_callB call_isi (by rfl) L.z_isinstance (by decide +kernel) (pa_cons (pv 0) (pa_cons (pe_gc (v := .ref A.Cursor) (by rfl) ⟨_, L.c_Cursor.g, rfl⟩) pa_nil)))) (pss_one ps_never) pss_nil)
      (pss_cons (ps_if (pt_val (pe_callB call_isi (by rfl) L.z_isinstance (by decide +kernel) (pa_cons (pv 0) (pa_cons (pe_gc (v := .ref A.Table) (by rfl) ⟨_, L.c_Table.g, rfl⟩) pa_nil)))) (pss_one ps_never) pss_nil)
      (pss_cons (ps_if (pt_val (pe_callB call_isi (by rfl) L.z_isinstance (by decide +kernel) (pa_cons (pv 0) (pa_cons (pe_gc (v := .ref A.Instance) (by rfl) ⟨_, L.c_Instance.g, rfl⟩) pa_nil))))
        (pss_one (ps_ret (pe_lst (pa_cons (pe_fld (pv 0) rfl) (StX.pa_star (pe_callTy (call_list_vals0 (by rfl)) (by rfl) L.z_list (by decide +kernel) (pa_cons (pe_vals0 (pe_fld (pv 0) rfl)) pa_nil)) pa_nil)))))
        pss_nil)
      (pss_cons (ps_if (pt_val (pe_callB call_isi (by rfl) L.z_isinstance (by decide +kernel) (pa_cons (pv 0) (pa_cons (pe_gc (v := .ref A.Kin) (by rfl) ⟨_, L.c_Kin.g, rfl⟩) pa_nil))))
        (pss_one (ps_ret (pe_lst (pa_cons (pe_fld (pv 0) rfl) (StX.pa_star (pe_callTy (call_list_vals0 (by rfl)) (by rfl) L.z_list (by decide +kernel) (pa_cons (pe_vals0 (pe_fld (pv 0) rfl)) pa_nil)) pa_nil)))))
        pss_nil)
      (pss_cons (ps_if (pt_val (pe_callB call_isi (by rfl) L.z_isinstance (by decide +kernel) (pa_cons (pv 0) (pa_cons (pe_gc (v := .ref A.Closure) (by rfl) ⟨_, L.c_Closure.g, rfl⟩) pa_nil))))
        (pss_one (ps_ret (pe_callTy call_list_of (by rfl) L.z_list (by decide +kernel) (pa_cons (pe_fld (pv 0) rfl) pa_nil))))
        pss_nil)
      (pss_one ps_never)))))))), ?_⟩
    cases hx with
    | var dx v o h hv =>
      refine ⟨_, rfl, .ref x, .ref A.Variable, _, .ref A.Variable, _, rfl, .own _, L.c_Variable.ty h, kit_self _, _, rfl, iteT ?_⟩
      refine ⟨_, rfl, x, A.Variable, dx, _, _, rfl, h, L.c_Variable.cl, L.n_Variable_value, lk_hit, (by show 1 ≤ sizeLine; decide), fun r nr => ?_⟩
      exact q _ r [v] (same_upd nr) nr upd_same ⟨hv.keep fun _ _ _ e => same_upd nr _ _ e, trivial⟩
    | parts dx l us os h hl hu le =>
      refine ⟨_, rfl, .ref x, .ref A.Variable, _, .ref A.Variable, _, rfl, .own _, L.c_Parts.ty h, L.k_Parts_Variable, _, rfl, iteF ?_⟩
      refine ⟨_, rfl, .ref x, .ref A.Parts, _, .ref A.Parts, _, rfl, .own _, L.c_Parts.ty h, kit_self _, _, rfl, iteT ?_⟩
      refine ⟨_, rfl, x, A.Parts, dx, _, _, rfl, h, L.c_Parts.cl, L.n_Parts_held, lk_hit, l, us, rfl, .inl (SqL.of hl), fun r nr => ?_⟩
      exact q _ r us (same_upd nr) nr upd_same (hu.same (same_upd nr))
    | inst dx m v o h hm hv =>
      refine ⟨_, rfl, .ref x, .ref A.Variable, _, .ref A.Variable, _, rfl, .own _, L.c_Instance.ty h, L.k_Instance_Variable, _, rfl, iteF ?_⟩
      refine ⟨_, rfl, .ref x, .ref A.Parts, _, .ref A.Parts, _, rfl, .own _, L.c_Instance.ty h, L.k_Instance_Parts, _, rfl, iteF ?_⟩
      refine ⟨_, rfl, .ref x, .ref A.Cursor, _, .ref A.Cursor, _, rfl, .own _, L.c_Instance.ty h, L.k_Instance_Cursor, _, rfl, iteF ?_⟩
      refine ⟨_, rfl, .ref x, .ref A.Table, _, .ref A.Table, _, rfl, .own _, L.c_Instance.ty h, L.k_Instance_Table, _, rfl, iteF ?_⟩
      refine ⟨_, rfl, .ref x, .ref A.Instance, _, .ref A.Instance, _, rfl, .own _, L.c_Instance.ty h, kit_self _, _, rfl, iteT ?_⟩
      refine ⟨_, rfl, x, A.Instance, dx, _, _, rfl, h, L.c_Instance.cl, L.n_Instance_owner, lk_hit, ?_⟩
      refine ⟨_, rfl, x, A.Instance, dx, _, _, rfl, h, L.c_Instance.cl, L.n_Instance_named, (by rw [lk_skip (by decide +kernel)]; exact lk_hit), m, rfl, hm, fun a na => ?_⟩
      have s1 := same_upd (o := ViewO m a) na
      refine ⟨a, m, rfl, upd_same, s1 _ _ hm, fun l nl => ?_⟩
      have s2 := s1.trans (same_upd (o := .lst []) nl)
      refine ⟨l, [], rfl, .inr (SqL.of upd_same), (by show 1 ≤ sizeLine; decide), fun r nr => ?_⟩
      have s3 := s2.trans (same_upd (o := .lst [v]) nr)
      exact q _ r [v] s3 (s2.free nr) upd_same ⟨hv.keep fun _ _ _ e => s3 _ _ e, trivial⟩
    | kin dx m h hm =>
      refine ⟨_, rfl, .ref x, .ref A.Variable, _, .ref A.Variable, _, rfl, .own _, L.c_Kin.ty h, L.k_Kin_Variable, _, rfl, iteF ?_⟩
      refine ⟨_, rfl, .ref x, .ref A.Parts, _, .ref A.Parts, _, rfl, .own _, L.c_Kin.ty h, L.k_Kin_Parts, _, rfl, iteF ?_⟩
      refine ⟨_, rfl, .ref x, .ref A.Cursor, _, .ref A.Cursor, _, rfl, .own _, L.c_Kin.ty h, L.k_Kin_Cursor, _, rfl, iteF ?_⟩
      refine ⟨_, rfl, .ref x, .ref A.Table, _, .ref A.Table, _, rfl, .own _, L.c_Kin.ty h, L.k_Kin_Table, _, rfl, iteF ?_⟩
      refine ⟨_, rfl, .ref x, .ref A.Instance, _, .ref A.Instance, _, rfl, .own _, L.c_Kin.ty h, L.k_Kin_Instance, _, rfl, iteF ?_⟩
      refine ⟨_, rfl, .ref x, .ref A.Kin, _, .ref A.Kin, _, rfl, .own _, L.c_Kin.ty h, kit_self _, _, rfl, iteT ?_⟩
      refine ⟨_, rfl, x, A.Kin, dx, _, _, rfl, h, L.c_Kin.cl, L.n_Kin_parent, (by rw [lk_skip (by decide +kernel)]; exact lk_hit), ?_⟩
      refine ⟨_, rfl, x, A.Kin, dx, _, _, rfl, h, L.c_Kin.cl, L.n_Kin_methods, (by rw [lk_skip (by decide +kernel), lk_skip (by decide +kernel)]; exact lk_hit), m, rfl, hm, fun a na => ?_⟩
      have s1 := same_upd (o := ViewO m a) na
      refine ⟨a, m, rfl, upd_same, s1 _ _ hm, fun l nl => ?_⟩
      have s2 := s1.trans (same_upd (o := .lst []) nl)
      refine ⟨l, [], rfl, .inr (SqL.of upd_same), (by show 1 ≤ sizeLine; decide), fun r nr => ?_⟩
      have s3 := s2.trans (same_upd (o := .lst [.non]) nr)
      exact q _ r [.non] s3 (s2.free nr) upd_same ⟨.inl rfl, trivial⟩
    | clo dx t v1 v2 us os h ht hu le =>
      refine ⟨_, rfl, .ref x, .ref A.Variable, _, .ref A.Variable, _, rfl, .own _, L.c_Closure.ty h, L.k_Closure_Variable, _, rfl, iteF ?_⟩
      refine ⟨_, rfl, .ref x, .ref A.Parts, _, .ref A.Parts, _, rfl, .own _, L.c_Closure.ty h, L.k_Closure_Parts, _, rfl, iteF ?_⟩
      refine ⟨_, rfl, .ref x, .ref A.Cursor, _, .ref A.Cursor, _, rfl, .own _, L.c_Closure.ty h, L.k_Closure_Cursor, _, rfl, iteF ?_⟩
      refine ⟨_, rfl, .ref x, .ref A.Table, _, .ref A.Table, _, rfl, .own _, L.c_Closure.ty h, L.k_Closure_Table, _, rfl, iteF ?_⟩
      refine ⟨_, rfl, .ref x, .ref A.Instance, _, .ref A.Instance, _, rfl, .own _, L.c_Closure.ty h, L.k_Closure_Instance, _, rfl, iteF ?_⟩
      refine ⟨_, rfl, .ref x, .ref A.Kin, _, .ref A.Kin, _, rfl, .own _, L.c_Closure.ty h, L.k_Closure_Kin, _, rfl, iteF ?_⟩
      refine ⟨_, rfl, .ref x, .ref A.Closure, _, .ref A.Closure, _, rfl, .own _, L.c_Closure.ty h, kit_self _, _, rfl, iteT ?_⟩
      refine ⟨_, rfl, x, A.Closure, dx, _, _, rfl, h, L.c_Closure.cl, L.n_Closure_scope, (by rw [lk_skip (by decide +kernel), lk_skip (by decide +kernel)]; exact lk_hit), t, us, rfl, .inr (SqT.of ht), fun r nr => ?_⟩
      exact q _ r us (same_upd nr) nr upd_same (hu.same (same_upd nr))
/-- the store at s holds objects that refer as g tells -/
structure Gr (A : Ads) (H : Hp) (s : Addr) (g : List (List Nat)) : Prop where
  ex : ∃ (ds t o lm : Addr) (X : List Addr), H s = some (.ins A.Store ds (stF t o lm)) ∧ H t = some (.lst (X.map V.ref)) ∧ X.length = g.length ∧ ∀ (i : Nat) x cs, X[i]? = some x → g[i]? = some cs → ∃ os, ThC A H x os ∧ nums os = cs
  lt : ∀ cs ∈ g, ∀ c ∈ cs, c < g.length
  le : g.length ≤ 100
theorem Gr.same {H H' : Hp} {s : Addr} {g : List (List Nat)} (k : Same H H') (h : Gr A H s g) : Gr A H' s g := by
  obtain ⟨⟨ds, t, o, lm, X, h1, h2, h3, h4⟩, lt, le⟩ := h
  exact ⟨⟨ds, t, o, lm, X, k _ _ h1, k _ _ h2, h3, fun i x cs e1 e2 => let ⟨os, h5, h6⟩ := h4 i x cs e1 e2; ⟨os, h5.same k, h6⟩⟩, lt, le⟩
def spCh (A : Ads) : Sp := fun vs H Q _ => ∃ s g n cs, vs = [.ref s, .int ((n : Nat) : Int)] ∧ Gr A H s g ∧ g[n]? = some cs ∧ ∀ H' r, Same H H' → H r = none → H' r = some (.lst (numV cs)) → cs.length ≤ 10 → Q (.ref r) H'
theorem ok_children_of (L : Lib P K mg A) : FnOk P w K mg base CX0 2 L.children_of.f L.children_of.fd ["store", "number"] (spCh A) := by
  have G_numbers_of : FnOk P w K mg base CX0 1 L.numbers_of.f L.numbers_of.fd ["values"] (spNum K A false) := ok_numbers_of L
  have G_values_of : FnOk P w K mg base CX0 1 L.values_of.f L.values_of.fd ["thing"] (spVal A) := ok_values_of L
  refine L.children_of.F.ok sc_children_of (fun vs H Q E h => ?_) (fun cdv A' outer s H vs Q E hr h => ?_)
  · obtain ⟨s, g, n, cs, rfl, _⟩ := h
    rfl
  · obtain ⟨st, g, n, cs, rfl, G, hn, q⟩ := h
    obtain ⟨⟨ds, t, o, lm, X, h1, h2, h3, h4⟩, lt, le⟩ := G
    have hX : n < X.length := by rw [h3]; exact (List.getElem?_eq_some_iff.mp hn).1
    obtain ⟨x, hx⟩ : ∃ x, X[n]? = some x := ⟨_, List.getElem?_eq_getElem hX⟩
    obtain ⟨os, h5, h6⟩ := h4 n x cs hx hn
    refine ⟨_, (pss_one (ps_ret (pe_call G_numbers_of (hr.mono (by omega)) (by rfl) L.numbers_of.g L.numbers_of.F.kp L.numbers_of.b .nil pass0 (pa_cons (pe_call G_values_of (hr.mono (by omega)) (by rfl) L.values_of.g L.values_of.F.kp L.values_of.b .nil pass0 (pa_cons (pe_ix ix_list (pe_fld (pv 0) rfl) (pv 1) (fun _ _ => rfl)) pa_nil)) pa_nil)))), ?_⟩
    refine ⟨_, rfl, st, A.Store, ds, _, _, rfl, h1, L.c_Store.cl, L.n_Store_things, st_things _ _ _, _, rfl, t, _, _, .ref x, rfl, rfl, SqL.of h2, atI_nat (by rw [List.getElem?_map, hx]; rfl), x, os, rfl, h5, fun H1 r us s1 nr hr1 hu => ?_⟩
    have ol := h5.le
    have ul := hu.len
    refine ⟨r, us, os, rfl, SqL.of hr1, hu, by omega, fun H2 r2 s2 nr2 h2' => ?_⟩
    rw [h6] at h2'
    have := nums_le os
    rw [h6] at this
    exact q H2 r2 (s1.trans s2) (s1.free nr2) h2' (by omega)
end
end My
namespace My
open PySem L2 XV
open C8 (pss_cut tCut cutS_slice pe_gc)
/-- the numbers a frame names: its scope, its stack, the scope of its handler -/
structure F3 where
  sc : List Nat
  ab : List Nat
  inn : List Nat
def F3.all (f : F3) : List Nat := f.sc ++ f.ab ++ f.inn
structure FrC (A : Ads) (H : Hp) (x : Addr) (f : F3) : Prop where
  ex : ∃ (dx t k h tu ti : Addr) (v : V) (us1 us2 us3 : List V), H x = some (.ins A.Frame dx (frF v t k h)) ∧ H t = some (.tup us1) ∧ Vls A H us1 (f.sc.map some) ∧ H k = some (.lst (us2 ++ [.non, .str "x"])) ∧ Vls A H us2 (f.ab.map some) ∧ H h = some (.lst [.ref tu]) ∧ H tu = some (.tup [.int 0, .ref ti]) ∧ H ti = some (.tup us3) ∧ Vls A H us3 (f.inn.map some)
  le : f.sc.length ≤ 3 ∧ f.ab.length ≤ 3 ∧ f.inn.length ≤ 3
theorem FrC.same {A : Ads} {H H' : Hp} {x : Addr} {f : F3} (s : Same H H') (h : FrC A H x f) : FrC A H' x f := by
  obtain ⟨⟨dx, t, k, h, tu, ti, v, us1, us2, us3, h1, h2, h3, h4, h5, h6, h7, h8, h9⟩, le⟩ := h
  exact ⟨⟨dx, t, k, h, tu, ti, v, us1, us2, us3, s _ _ h1, s _ _ h2, h3.same s, s _ _ h4, h5.same s, s _ _ h6, s _ _ h7, s _ _ h8, h9.same s⟩, le⟩
/-- the machine at m, over the store at s, with the frames fs -/
structure Mch (A : Ads) (H : Hp) (m s : Addr) (fs : List F3) : Prop where
  ex : ∃ (dm c b f p : Addr) (X : List Addr), H m = some (.ins A.Machine dm (mF c b s f p)) ∧ H f = some (.lst (X.map V.ref)) ∧ X.length = fs.length ∧ ∀ (i : Nat) x fr, X[i]? = some x → fs[i]? = some fr → FrC A H x fr
  le : fs.length ≤ 3
theorem Mch.same {A : Ads} {H H' : Hp} {m s : Addr} {fs : List F3} (k : Same H H') (h : Mch A H m s fs) : Mch A H' m s fs := by
  obtain ⟨⟨dm, c, b, f, p, X, h1, h2, h3, h4⟩, le⟩ := h
  exact ⟨⟨dm, c, b, f, p, X, k _ _ h1, k _ _ h2, h3, fun i x fr e1 e2 => (h4 i x fr e1 e2).same k⟩, le⟩
def rootsL (fs : List F3) : List Nat := 0 :: fs.flatMap F3.all
theorem roots_take {fs : List F3} {i : Nat} {f : F3} (h : fs[i]? = some f) : rootsL (fs.take (i + 1)) = rootsL (fs.take i) ++ f.all := by
  unfold rootsL
  rw [List.take_add_one, h, Option.toList_some, List.flatMap_append, List.flatMap_singleton, List.cons_append]
theorem roots_len {fs : List F3} (h : ∀ f ∈ fs, f.all.length ≤ 9) : (rootsL fs).length ≤ 1 + 9 * fs.length := by
  unfold rootsL
  induction fs with
  | nil => simp
  | cons f fs ih =>
    have h1 := h f (by simp)
    have h2 := ih fun g hg => h g (List.mem_cons_of_mem _ hg)
    simp only [List.flatMap_cons, List.length_cons, List.length_append] at h2 ⊢
    omega
section
variable {P : Program} {w : World} {K : PySem.W.Frag} {mg : Str → Option Value} {base : Heap} {A : Ads}
theorem m_frames (c b s f p : Addr) : (mF c b s f p).lookup ("frames" : Str) = some (.ref f) := by
  unfold mF
  rw [lk_skip (by decide +kernel), lk_skip (by decide +kernel), lk_skip (by decide +kernel), lk_skip (by decide +kernel)]
  exact lk_hit
theorem m_store (c b s f p : Addr) : (mF c b s f p).lookup ("store" : Str) = some (.ref s) := by
  unfold mF
  rw [lk_skip (by decide +kernel), lk_skip (by decide +kernel)]
  exact lk_hit
theorem m_thrown (c b s f p : Addr) : (mF c b s f p).lookup ("thrown" : Str) = some .non := by
  unfold mF
  rw [lk_skip (by decide +kernel), lk_skip (by decide +kernel), lk_skip (by decide +kernel), lk_skip (by decide +kernel), lk_skip (by decide +kernel), lk_skip (by decide +kernel)]
  exact lk_hit
theorem f_scope (v : V) (t k h : Addr) : (frF v t k h).lookup ("scope" : Str) = some (.ref t) := by
  unfold frF
  rw [lk_skip (by decide +kernel), lk_skip (by decide +kernel)]
  exact lk_hit
theorem f_stack (v : V) (t k h : Addr) : (frF v t k h).lookup ("stack" : Str) = some (.ref k) := by
  unfold frF
  rw [lk_skip (by decide +kernel), lk_skip (by decide +kernel), lk_skip (by decide +kernel)]
  exact lk_hit
theorem f_handlers (v : V) (t k h : Addr) : (frF v t k h).lookup ("handlers" : Str) = some (.ref h) := by
  unfold frF
  rw [lk_skip (by decide +kernel), lk_skip (by decide +kernel), lk_skip (by decide +kernel), lk_skip (by decide +kernel)]
  exact lk_hit
theorem f_made (v : V) (t k h : Addr) : (frF v t k h).lookup ("made" : Str) = some .non := by
  unfold frF
  rw [lk_skip (by decide +kernel), lk_skip (by decide +kernel), lk_skip (by decide +kernel), lk_skip (by decide +kernel), lk_skip (by decide +kernel)]
  exact lk_hit
def spRoots (A : Ads) : Sp := fun vs H Q _ => ∃ m s fs, vs = [.ref m] ∧ Mch A H m s fs ∧ ∀ H' r, Same H H' → H r = none → H' r = some (.lst (numV (rootsL fs))) → Q (.ref r) H'
theorem ok_roots_of (L : Lib P K mg A) : FnOk P w K mg base CX0 2 L.roots_of.f L.roots_of.fd ["machine"] (spRoots A) := by
  have G_numbers_of : FnOk P w K mg base CX0 1 L.numbers_of.f L.numbers_of.fd ["values"] (spNum K A false) := ok_numbers_of L
  have G_numbers_ofT : FnOk P w K mg base CX0 1 L.numbers_of.f L.numbers_of.fd ["values"] (spNum K A true) := ok_numbers_ofT L
  refine L.roots_of.F.ok sc_roots_of (fun vs H Q E h => ?_) (fun cdv A' outer s H vs Q E hr h => ?_)
  · obtain ⟨m, s, fs, rfl, _⟩ := h
    rfl
  · obtain ⟨m, st, fs, rfl, M, q⟩ := h
    obtain ⟨⟨dm, c, b, f, p, X, h1, h2, h3, h4⟩, le⟩ := M
    refine ⟨_, (pss_cons (ps_set (i := 1) sc_roots_of.nd rfl (.inl rfl) (pe_lst (pa_cons (pe_glob (v := .int 0) (by rfl) L.v_ERROR.choose_spec ⟨_, rfl⟩) pa_nil)))
      (pss_cons (ps_for PassesOwn.never rfl (pi_list (pe_fld (pv 0) rfl)) (pg_name (i := 2) sc_roots_of.nd rfl (.inl rfl))
        (pss_cons (ps_expr (pe_bm PySem.F.plainAttrs_list PySem.F.slot_list_extend PySem.F.type_list_extend mt_extend (pv 1) (pa_cons (pe_call G_numbers_ofT (hr.mono (by omega)) (by rfl) L.numbers_of.g L.numbers_of.F.kp L.numbers_of.b .nil pass0 (pa_cons (pe_fld (pv 2) rfl) pa_nil)) pa_nil)))
      (pss_cons (ps_expr (pe_bm PySem.F.plainAttrs_list PySem.F.slot_list_extend PySem.F.type_list_extend mt_extend (pv 1) (pa_cons (pe_call G_numbers_of (hr.mono (by omega)) (by rfl) L.numbers_of.g L.numbers_of.F.kp L.numbers_of.b .nil pass0 (pa_cons (pe_fld (pv 2) rfl) pa_nil)) pa_nil)))
      (pss_cons (ps_for PassesOwn.never rfl (pi_list (pe_fld (pv 2) rfl)) (pg_tup (by rfl) (pgs_cons (pg_name (i := 3) sc_roots_of.nd rfl (.inl rfl)) (pgs_cons (pg_name (i := 4) sc_roots_of.nd rfl (.inl rfl)) pgs_nil)))
        (pss_one (ps_expr (pe_bm PySem.F.plainAttrs_list PySem.F.slot_list_extend PySem.F.type_list_extend mt_extend (pv 1) (pa_cons (pe_call G_numbers_ofT (hr.mono (by omega)) (by rfl) L.numbers_of.g L.numbers_of.F.kp L.numbers_of.b .nil pass0 (pa_cons (pv 4) pa_nil)) pa_nil)))))
      (pss_one (ps_expr (pe_bm PySem.F.plainAttrs_list PySem.F.slot_list_extend PySem.F.type_list_extend mt_extend (pv 1) (pa_cons (pe_call G_numbers_of (hr.mono (by omega)) (by rfl) L.numbers_of.g L.numbers_of.F.kp L.numbers_of.b .nil pass0 (pa_cons (pe_lst (pa_cons (pe_fld (pv 2) rfl) pa_nil)) pa_nil)) pa_nil))))))))
      (pss_one (ps_ret (pe_op op_cat (pv 1) (pe_call G_numbers_of (hr.mono (by omega)) (by rfl) L.numbers_of.g L.numbers_of.F.kp L.numbers_of.b .nil pass0 (pa_cons (pe_lst (pa_cons (pe_fld (pv 0) rfl) pa_nil)) pa_nil))))))), ?_⟩
    refine ⟨(by show 1 ≤ sizeLine; decide), fun D nD => ?_⟩
    have s0 := same_upd (o := .lst [.int 0]) nD
    have fl : ∀ (f : F3), (f.sc.length ≤ 3 ∧ f.ab.length ≤ 3 ∧ f.inn.length ≤ 3) → f.all.length ≤ 9 := fun f h => by
      unfold F3.all
      rw [List.length_append, List.length_append]
      omega
    refine ⟨_, rfl, m, A.Machine, dm, _, _, rfl, s0 _ _ h1, L.c_Machine.cl, L.n_Machine_frames, m_frames _ _ _ _ _, f, rfl, ⟨_, SqL.of (s0 _ _ h2)⟩, for_list (K := K) (a := f) (xs := X.map V.ref) (fun i σ H' => ∃ y2 y3 y4 : Option V, σ = [some (.ref m), some (.ref D), y2, y3, y4] ∧ Same H H' ∧ H' D = some (.lst (numV (rootsL (fs.take i))))) ⟨none, none, none, rfl, s0, upd_same⟩ (fun i σ H' _ h => by obtain ⟨_, _, _, _, s, _⟩ := h; exact SqL.of (s _ _ h2)) ?_ ?_⟩
    · rintro i v σ H1 hv ⟨y2, y3, y4, rfl, s1, hD⟩
      rw [List.getElem?_map] at hv
      obtain ⟨x, hx, rfl⟩ := Option.map_eq_some_iff.mp hv
      have hi := (List.getElem?_eq_some_iff.mp hx).1
      obtain ⟨fr, hfr⟩ : ∃ fr, fs[i]? = some fr := ⟨_, List.getElem?_eq_getElem (by omega)⟩
      obtain ⟨⟨dx, t, k, hh, tu, ti, v0, us1, us2, us3, g1, g2, g3, g4, g5, g6, g7, g8, g9⟩, l1, l2, l3⟩ := h4 i x fr hx hfr
      have len : (rootsL (fs.take i)).length ≤ 28 := by
        have := roots_len (fs := fs.take i) fun f hf => fl f (by
          obtain ⟨j, hj, rfl⟩ := List.getElem_of_mem (List.mem_of_mem_take hf)
          exact (h4 j X[j] fs[j] (List.getElem?_eq_getElem (by omega)) (List.getElem?_eq_getElem hj)).le)
        rw [List.length_take] at this
        omega
      refine ⟨_, rfl, .inl ⟨rfl, _, SqL.of hD⟩, ?_⟩
      have a1 := nums_some fr.sc
      have a2 : nums (fr.ab.map some ++ [none, none]) = fr.ab := by rw [nums_app, nums_some]; exact List.append_nil _
      have a3 := nums_some fr.inn
      have ul1 := g3.len
      have ul2 := g5.len
      have ul3 := g9.len
      rw [List.length_map] at ul1 ul2 ul3
      refine ⟨_, rfl, x, A.Frame, dx, _, _, rfl, s1 _ _ g1, L.c_Frame.cl, L.n_Frame_scope, f_scope _ _ _ _, t, us1, fr.sc.map some, rfl, SqT.of (s1 _ _ g2), g3.same s1, by omega, fun H2 r s2 nr hr2 => ?_⟩
      rw [a1] at hr2
      refine ⟨D, r, _, _, rfl, rfl, s2 _ _ hD, hr2, ?_, ?_⟩
      · rw [numV_len, numV_len]
        exact Nat.le_trans (m := 100) (by omega) (by decide)
      have k3 : Same H (upd H2 D (.lst (numV (rootsL (fs.take i)) ++ numV fr.sc))) := My.Same.put (s1.trans s2) nD
      have hD3 : upd H2 D (.lst (numV (rootsL (fs.take i)) ++ numV fr.sc)) D = some (.lst (numV (rootsL (fs.take i) ++ fr.sc))) := by rw [upd_same, numV_app]
      generalize upd H2 D _ = H3 at k3 hD3 ⊢
      refine ⟨_, rfl, .inl ⟨rfl, _, SqL.of hD3⟩, ?_⟩
      refine ⟨_, rfl, x, A.Frame, dx, _, _, rfl, k3 _ _ g1, L.c_Frame.cl, L.n_Frame_stack, f_stack _ _ _ _, k, us2 ++ [.non, .str "x"], fr.ab.map some ++ [none, none], rfl, SqL.of (k3 _ _ g4), (g5.same k3).app ⟨.inl rfl, .inr (.inr rfl), trivial⟩, by simp; omega, fun H4 r4 s4 nr4 hr4 => ?_⟩
      rw [a2] at hr4
      refine ⟨D, r4, _, _, rfl, rfl, s4 _ _ hD3, hr4, ?_, ?_⟩
      · rw [numV_len, numV_len, List.length_append]
        exact Nat.le_trans (m := 100) (by omega) (by decide)
      have k5 : Same H (upd H4 D (.lst (numV (rootsL (fs.take i) ++ fr.sc) ++ numV fr.ab))) := My.Same.put (k3.trans s4) nD
      have hD5 : upd H4 D (.lst (numV (rootsL (fs.take i) ++ fr.sc) ++ numV fr.ab)) D = some (.lst (numV (rootsL (fs.take i) ++ fr.sc ++ fr.ab))) := by rw [upd_same, numV_app]
      generalize upd H4 D _ = H5 at k5 hD5 ⊢
      refine ⟨_, rfl, x, A.Frame, dx, _, _, rfl, k5 _ _ g1, L.c_Frame.cl, L.n_Frame_handlers, f_handlers _ _ _ _, hh, rfl, ⟨_, SqL.of (k5 _ _ g6)⟩, for_list (K := K) (a := hh) (xs := [.ref tu]) (fun j σ H' => ∃ y3 y4 : Option V, σ = [some (.ref m), some (.ref D), some (.ref x), y3, y4] ∧ Same H H' ∧ H' D = some (.lst (numV (rootsL (fs.take i) ++ fr.sc ++ fr.ab ++ if j = 0 then [] else fr.inn)))) ⟨_, _, rfl, k5, by rw [if_pos rfl, List.append_nil]; exact hD5⟩ (fun i σ H' _ h => by obtain ⟨_, _, _, s, _⟩ := h; exact SqL.of (s _ _ g6)) ?_ ?_⟩
      · rintro j v σ H6 hv ⟨y3', y4', rfl, k6, hD6⟩
        have hj : j = 0 := by
          have := (List.getElem?_eq_some_iff.mp hv).1
          simp at this
          exact this
        subst hj
        cases hv
        rw [if_pos rfl, List.append_nil] at hD6
        refine ⟨tu, _, rfl, SqT.of (k6 _ _ g7), rfl, _, _, rfl, _, _, rfl, rfl, ?_⟩
        refine ⟨_, rfl, .inl ⟨rfl, _, SqL.of hD6⟩, _, rfl, ti, us3, fr.inn.map some, rfl, SqT.of (k6 _ _ g8), g9.same k6, by omega, fun H7 r7 s7 nr7 hr7 => ?_⟩
        rw [a3] at hr7
        refine ⟨D, r7, _, _, rfl, rfl, s7 _ _ hD6, hr7, ?_, ?_⟩
        · rw [numV_len, numV_len, List.length_append, List.length_append]
          exact Nat.le_trans (m := 100) (by omega) (by decide)
        exact ⟨_, _, rfl, My.Same.put (k6.trans s7) nD, by rw [upd_same, if_neg (by omega), numV_app]⟩
      · rintro σ H6 ⟨y3', y4', rfl, k6, hD6⟩
        rw [if_neg (by simp)] at hD6
        have e : rootsL (fs.take i) ++ fr.sc ++ fr.ab ++ fr.inn = rootsL (fs.take (i + 1)) := by
          rw [roots_take hfr]
          unfold F3.all
          simp only [List.append_assoc]
        rw [e] at hD6
        refine ⟨_, rfl, .inl ⟨rfl, _, SqL.of hD6⟩, ?_⟩
        refine ⟨_, rfl, x, A.Frame, dx, _, _, rfl, k6 _ _ g1, L.c_Frame.cl, L.n_Frame_made, f_made _ _ _ _, (by show 1 ≤ sizeLine; decide), fun l nl => ?_⟩
        have s7 := same_upd (o := .lst [.non]) nl
        refine ⟨l, [.non], [none], rfl, SqL.of upd_same, ⟨.inl rfl, trivial⟩, by simp, fun H8 r8 s8 nr8 hr8 => ?_⟩
        refine ⟨D, r8, _, _, rfl, rfl, s8 _ _ (s7 _ _ hD6), hr8, ?_, ?_⟩
        · rw [numV_len, numV_len]
          have := roots_len (fs := fs.take (i + 1)) fun f hf => fl f (by
            obtain ⟨j, hj, rfl⟩ := List.getElem_of_mem (List.mem_of_mem_take hf)
            exact (h4 j X[j] fs[j] (List.getElem?_eq_getElem (by omega)) (List.getElem?_eq_getElem hj)).le)
          rw [List.length_take] at this
          exact Nat.le_trans (m := 100) (by show _ + 0 ≤ _; omega) (by decide)
        exact ⟨_, _, _, rfl, My.Same.put ((k6.trans s7).trans s8) nD, by rw [upd_same, numV_app]; exact congrArg (fun l => some (HO.lst (numV l))) (List.append_nil _)⟩
    · rintro σ H1 ⟨y2, y3, y4, rfl, s1, hD⟩
      rw [List.length_map, h3, List.take_length] at hD
      refine ⟨_, rfl, _, rfl, m, A.Machine, dm, _, _, rfl, s1 _ _ h1, L.c_Machine.cl, L.n_Machine_thrown, m_thrown _ _ _ _ _, (by show 1 ≤ sizeLine; decide), fun l nl => ?_⟩
      have s2 := same_upd (o := .lst [.non]) nl
      refine ⟨l, [.non], [none], rfl, SqL.of upd_same, ⟨.inl rfl, trivial⟩, by simp, fun H3 r3 s3 nr3 hr3 => ?_⟩
      refine ⟨D, r3, _, _, rfl, rfl, s3 _ _ (s2 _ _ hD), hr3, ?_, fun z nz => ?_⟩
      · rw [numV_len, numV_len]
        have := roots_len (fs := fs) fun f hf => fl f (by
          obtain ⟨j, hj, rfl⟩ := List.getElem_of_mem hf
          exact (h4 j X[j] fs[j] (List.getElem?_eq_getElem (by omega)) (List.getElem?_eq_getElem hj)).le)
        exact Nat.le_trans (m := 100) (by show _ + 0 ≤ _; omega) (by decide)
      have s13 := (s1.trans s2).trans s3
      exact q _ z (s13.trans (same_upd nz)) (s13.free nz) (by rw [upd_same, numV_app]; exact congrArg (fun l => some (HO.lst (numV l))) (List.append_nil _))
end
end My
namespace My
/-! ### what is reached, as lists of numbers -/
/-- cs put behind f, each that is not there yet -/
def adds (f cs : List Nat) : List Nat := cs.foldl (fun f c => if c ∈ f then f else f ++ [c]) f
theorem adds_snoc (f cs : List Nat) (c : Nat) : adds f (cs ++ [c]) = if c ∈ adds f cs then adds f cs else adds f cs ++ [c] := by
  unfold adds
  rw [List.foldl_append]
  rfl
theorem adds_mem {f : List Nat} : ∀ {cs : List Nat} {n : Nat}, n ∈ adds f cs ↔ n ∈ f ∨ n ∈ cs := by
  intro cs
  induction cs generalizing f with
  | nil => intro n; simp [adds]
  | cons c cs ih =>
    intro n
    show n ∈ adds (if c ∈ f then f else f ++ [c]) cs ↔ _
    rw [ih]
    by_cases h : c ∈ f
    · rw [if_pos h, List.mem_cons]
      constructor
      · rintro (h1 | h1)
        · exact .inl h1
        · exact .inr (.inr h1)
      · rintro (h1 | h1 | h1)
        · exact .inl h1
        · exact .inl (h1 ▸ h)
        · exact .inr h1
    · rw [if_neg h]
      simp only [List.mem_append, List.mem_cons, List.not_mem_nil, or_false, or_assoc]
theorem adds_nd {f : List Nat} : ∀ {cs : List Nat}, f.Nodup → (adds f cs).Nodup := by
  intro cs
  induction cs generalizing f with
  | nil => exact id
  | cons c cs ih =>
    intro h
    show (adds (if c ∈ f then f else f ++ [c]) cs).Nodup
    refine ih ?_
    by_cases hc : c ∈ f
    · rw [if_pos hc]; exact h
    · rw [if_neg hc, List.nodup_append]
      exact ⟨h, by simp, fun a ha b hb => by rw [List.mem_singleton.mp hb]; exact fun z => hc (z ▸ ha)⟩
theorem adds_pre {f : List Nat} : ∀ {cs : List Nat}, ∃ r, adds f cs = f ++ r := by
  intro cs
  induction cs generalizing f with
  | nil => exact ⟨[], by simp [adds]⟩
  | cons c cs ih =>
    obtain ⟨r, e⟩ := ih (f := if c ∈ f then f else f ++ [c])
    show ∃ r, adds (if c ∈ f then f else f ++ [c]) cs = _
    rw [e]
    by_cases h : c ∈ f
    · rw [if_pos h]; exact ⟨r, rfl⟩
    · rw [if_neg h]; exact ⟨[c] ++ r, by rw [List.append_assoc]⟩
theorem nd_len {n : Nat} : ∀ {l : List Nat}, l.Nodup → (∀ x ∈ l, x < n) → l.length ≤ n := by
  induction n with
  | zero =>
    intro l _ h
    cases l with
    | nil => simp
    | cons x _ => exact absurd (h x (by simp)) (by omega)
  | succ n ih =>
    intro l nd h
    have h1 : (l.erase n).length ≤ n := ih (nd.erase n) fun x hx => by
      have := (List.Nodup.mem_erase_iff nd).mp hx
      have := h x this.2
      omega
    have := List.length_erase (a := n) (l := l)
    split at this <;> omega
/-- reached from S along g -/
inductive Rch (g : List (List Nat)) (S : List Nat) : Nat → Prop
  | root {n : Nat} (h : n ∈ S) : Rch g S n
  | step {n c : Nat} {cs : List Nat} (h : Rch g S n) (e : g[n]? = some cs) (m : c ∈ cs) : Rch g S c
theorem rch_of {g : List (List Nat)} {S F : List Nat} (h0 : ∀ n ∈ S, n ∈ F) (hc : ∀ n ∈ F, ∀ cs, g[n]? = some cs → ∀ c ∈ cs, c ∈ F) {n : Nat} (h : Rch g S n) : n ∈ F := by
  induction h with
  | root h => exact h0 _ h
  | step _ e m ih => exact hc _ ih _ e _ m
theorem rch_lt {g : List (List Nat)} {S : List Nat} (h0 : ∀ n ∈ S, n < g.length) (hg : ∀ cs ∈ g, ∀ c ∈ cs, c < g.length) {n : Nat} (h : Rch g S n) : n < g.length := by
  cases h with
  | root h => exact h0 _ h
  | step _ e m => exact hg _ (List.mem_of_getElem? e) _ m
/-- found, of which the first k are done -/
structure Clo (g : List (List Nat)) (S found : List Nat) (k : Nat) : Prop where
  nd : found.Nodup
  sub : ∀ n ∈ S, n ∈ found
  rch : ∀ n ∈ found, Rch g S n
  done : ∀ i n cs, i < k → found[i]? = some n → g[n]? = some cs → ∀ c ∈ cs, c ∈ found
theorem Clo.start (g : List (List Nat)) (S : List Nat) : Clo g S (adds [] S) 0 :=
  ⟨adds_nd (by simp), fun n h => adds_mem.mpr (.inr h), fun n h => .root ((adds_mem.mp h).elim (fun z => by simp at z) id), fun _ _ _ h => by omega⟩
theorem Clo.step {g : List (List Nat)} {S found : List Nat} {k n : Nat} {cs : List Nat} (h : Clo g S found k) (hk : found[k]? = some n) (hc : g[n]? = some cs) : Clo g S (adds found cs) (k + 1) := by
  obtain ⟨r, e⟩ := adds_pre (f := found) (cs := cs)
  have hl := (List.getElem?_eq_some_iff.mp hk).1
  refine ⟨adds_nd h.nd, fun n hn => adds_mem.mpr (.inl (h.sub n hn)), fun m hm => ?_, fun i m ds hi hm hd c hcd => ?_⟩
  · rcases adds_mem.mp hm with z | z
    · exact h.rch m z
    · exact .step (h.rch n (List.mem_of_getElem? hk)) hc z
  · rw [e, List.getElem?_append_left (by omega)] at hm
    by_cases hik : i < k
    · exact adds_mem.mpr (.inl (h.done i m ds hik hm hd c hcd))
    · have : i = k := by omega
      subst this
      rw [hk] at hm
      cases hm
      rw [hc] at hd
      cases hd
      exact adds_mem.mpr (.inr hcd)
theorem Clo.all {g : List (List Nat)} {S found : List Nat} {k : Nat} (h : Clo g S found k) (hk : found.length ≤ k) {n : Nat} : n ∈ found ↔ Rch g S n :=
  ⟨h.rch n, rch_of h.sub fun m hm cs e c hc => by
    obtain ⟨i, hi, e2⟩ := List.getElem_of_mem hm
    exact h.done i m cs (by omega) (by rw [List.getElem?_eq_getElem hi, e2]) e c hc⟩
theorem Clo.le {g : List (List Nat)} {S found : List Nat} {k : Nat} (h : Clo g S found k) (h0 : ∀ n ∈ S, n < g.length) (hg : ∀ cs ∈ g, ∀ c ∈ cs, c < g.length) : found.length ≤ g.length :=
  nd_len h.nd fun n hn => rch_lt h0 hg (h.rch n hn)
/-- those reached, those still waiting among them -/
structure Dfs (g : List (List Nat)) (S R W : List Nat) : Prop where
  nd : R.Nodup
  sub : ∀ n ∈ S, n ∈ R
  wr : ∀ n ∈ W, n ∈ R
  wn : W.Nodup
  rch : ∀ n ∈ R, Rch g S n
  done : ∀ n ∈ R, n ∉ W → ∀ cs, g[n]? = some cs → ∀ c ∈ cs, c ∈ R
theorem Dfs.start (g : List (List Nat)) (S : List Nat) : Dfs g S (adds [] S) (adds [] S) :=
  ⟨adds_nd (by simp), fun n h => adds_mem.mpr (.inr h), fun _ h => h, adds_nd (by simp), fun n h => .root ((adds_mem.mp h).elim (fun z => by simp at z) id), fun n h1 h2 => absurd h1 h2⟩
theorem Dfs.all {g : List (List Nat)} {S R : List Nat} (h : Dfs g S R []) {n : Nat} : n ∈ R ↔ Rch g S n :=
  ⟨h.rch n, rch_of h.sub fun m hm cs e c hc => h.done m hm (by simp) cs e c hc⟩
theorem Dfs.le {g : List (List Nat)} {S R W : List Nat} (h : Dfs g S R W) (h0 : ∀ n ∈ S, n < g.length) (hg : ∀ cs ∈ g, ∀ c ∈ cs, c < g.length) : R.length ≤ g.length :=
  nd_len h.nd fun n hn => rch_lt h0 hg (h.rch n hn)
/-- the last of those waiting is taken; its children that are new are reached, and wait -/
theorem Dfs.step {g : List (List Nat)} {S R W r : List Nat} {n : Nat} {cs : List Nat} (h : Dfs g S R (W ++ [n])) (hc : g[n]? = some cs) (e : adds R cs = R ++ r) : Dfs g S (R ++ r) (W ++ r) := by
  rw [← e]
  refine ⟨adds_nd h.nd, fun m hm => adds_mem.mpr (.inl (h.sub m hm)), fun m hm => ?_, ?_, fun m hm => ?_, fun m hm nw ds hd c hcd => ?_⟩
  · rcases List.mem_append.mp hm with z | z
    · exact adds_mem.mpr (.inl (h.wr m (List.mem_append.mpr (.inl z))))
    · rw [e]; exact List.mem_append.mpr (.inr z)
  · have nd2 := adds_nd (cs := cs) h.nd
    rw [e] at nd2
    have n1 := List.nodup_append.mp nd2
    have n2 := List.nodup_append.mp h.wn
    exact List.nodup_append.mpr ⟨n2.1, n1.2.1, fun a ha b hb => n1.2.2 a (h.wr a (List.mem_append.mpr (.inl ha))) b hb⟩
  · rcases adds_mem.mp hm with z | z
    · exact h.rch m z
    · exact .step (h.rch n (h.wr n (by simp))) hc z
  · rw [e] at hm
    rcases List.mem_append.mp hm with z | z
    · by_cases mn : m = n
      · subst mn
        rw [hc] at hd
        cases hd
        exact adds_mem.mpr (.inr hcd)
      · refine adds_mem.mpr (.inl (h.done m z (fun q => ?_) ds hd c hcd))
        rcases List.mem_append.mp q with q | q
        · exact nw (List.mem_append.mpr (.inl q))
        · exact mn (List.mem_singleton.mp q)
    · exact absurd (List.mem_append.mpr (.inr z)) nw
/-- two rising lists of the same things are equal -/
theorem rise_eq : ∀ {l k : List Int}, l.Pairwise (· ≤ ·) → k.Pairwise (· ≤ ·) → l.Perm k → l = k
  | [], k, _, _, p => (List.Perm.nil_eq p)
  | a :: l, k, hl, hk, p => by
    cases k with
    | nil => exact absurd p.symm.nil_eq (by simp)
    | cons b k =>
      have h1 := List.pairwise_cons.mp hl
      have h2 := List.pairwise_cons.mp hk
      have ab : a = b := by
        have ha : a ∈ b :: k := p.subset (by simp)
        have hb : b ∈ a :: l := p.symm.subset (by simp)
        rcases List.mem_cons.mp ha with z | z
        · exact z
        · rcases List.mem_cons.mp hb with y | y
          · exact y.symm
          · have := h1.1 b y
            have := h2.1 a z
            omega
      subst ab
      rw [rise_eq h1.2 h2.2 (List.Perm.cons_inv p)]
/-- the numbers below n that are in R, rising -/
def below (n : Nat) (p : Nat → Bool) : List Nat := (List.range n).filter p
theorem sorted_below {n : Nat} {R : List Nat} {l : List Int} (nd : R.Nodup) (lt : ∀ x ∈ R, x < n) (p : l.Perm (R.map fun x => ((x : Nat) : Int))) (h : l.Pairwise (· ≤ ·)) : l = (below n fun x => decide (x ∈ R)).map fun x => ((x : Nat) : Int) := by
  refine rise_eq h ?_ (p.trans (List.Perm.map _ ?_))
  · refine List.Pairwise.map _ (R := fun a b : Nat => a < b) (fun a b h => by omega) ?_
    exact List.Pairwise.filter _ List.pairwise_lt_range
  · refine (List.perm_ext_iff_of_nodup nd (List.nodup_range.filter _)).mpr fun a => ?_
    rw [List.mem_filter, List.mem_range]
    simp only [decide_eq_true_eq]
    exact ⟨fun z => ⟨lt a z, z⟩, fun z => z.2⟩
end My
namespace My
/-! ### ways, breadth first -/
abbrev Wl := List (Nat × List Nat)
def kys (L : Wl) : List Nat := L.map Prod.fst
/-- the children cs of the last of the way p -/
def bstep (L : Wl) (p cs : List Nat) : Wl := cs.foldl (fun L c => if c ∈ kys L then L else L ++ [(c, p ++ [c])]) L
theorem bstep_snoc (L : Wl) (p cs : List Nat) (c : Nat) : bstep L p (cs ++ [c]) = if c ∈ kys (bstep L p cs) then bstep L p cs else bstep L p cs ++ [(c, p ++ [c])] := by
  unfold bstep
  rw [List.foldl_append]
  rfl
/-- each way is one thing alone, or goes on from an earlier one -/
structure Wy (L : Wl) : Prop where
  nd : (kys L).Nodup
  way : ∀ (i n : Nat) (p : List Nat), L[i]? = some (n, p) → p = [n] ∨ ∃ (j m : Nat) (q : List Nat), j < i ∧ L[j]? = some (m, q) ∧ p = q ++ [n]
theorem Wy.nil : Wy [] := ⟨by simp [kys], fun i n p h => by simp at h⟩
theorem Wy.put {L : Wl} {n : Nat} {p : List Nat} (h : Wy L) (hn : n ∉ kys L) (hp : p = [n] ∨ ∃ (j m : Nat) (q : List Nat), L[j]? = some (m, q) ∧ p = q ++ [n]) : Wy (L ++ [(n, p)]) := by
  refine ⟨?_, fun i m q e => ?_⟩
  · unfold kys at hn ⊢
    rw [List.map_append, List.nodup_append]
    refine ⟨h.nd, by simp, fun a ha b hb => ?_⟩
    simp at hb
    rw [hb]
    exact fun z => hn (z ▸ ha)
  · by_cases hi : i < L.length
    · rw [List.getElem?_append_left hi] at e
      rcases h.way i m q e with z | ⟨j, m', q', hj, e', r⟩
      · exact .inl z
      · exact .inr ⟨j, m', q', hj, by rw [List.getElem?_append_left (by omega)]; exact e', r⟩
    · have : i = L.length := by
        have := (List.getElem?_eq_some_iff.mp e).1
        rw [List.length_append, List.length_singleton] at this
        omega
      subst this
      rw [List.getElem?_append_right (Nat.le_refl _), Nat.sub_self] at e
      cases e
      rcases hp with z | ⟨j, m', q', e', r⟩
      · exact .inl z
      · have hj := (List.getElem?_eq_some_iff.mp e').1
        exact .inr ⟨j, m', q', hj, by rw [List.getElem?_append_left hj]; exact e', r⟩
/-- the ways of single things -/
def binit (S : List Nat) : Wl := S.foldl (fun L c => if c ∈ kys L then L else L ++ [(c, [c])]) []
theorem binit_snoc (S : List Nat) (c : Nat) : binit (S ++ [c]) = if c ∈ kys (binit S) then binit S else binit S ++ [(c, [c])] := by
  unfold binit
  rw [List.foldl_append]
  rfl
theorem snocR {α : Type} {p : List α → Prop} (h0 : p []) (h1 : ∀ l a, p l → p (l ++ [a])) (l : List α) : p l := by
  have : ∀ n (l : List α), l.length = n → p l := by
    intro n
    induction n with
    | zero => intro l e; rw [List.length_eq_zero_iff.mp e]; exact h0
    | succ n ih =>
      intro l e
      have hne : l ≠ [] := fun z => by rw [z] at e; cases e
      rw [← List.dropLast_concat_getLast hne]
      exact h1 _ _ (ih _ (by rw [List.length_dropLast, e]; rfl))
  exact this _ l rfl
theorem binit_ok (S : List Nat) : Wy (binit S) ∧ ∀ n, n ∈ kys (binit S) ↔ n ∈ S := by
  induction S using snocR with
  | h0 => exact ⟨Wy.nil, fun n => by simp [binit, kys]⟩
  | h1 S c ih =>
    obtain ⟨h1, h2⟩ := ih
    rw [binit_snoc]
    by_cases h : c ∈ kys (binit S)
    · rw [if_pos h]
      refine ⟨h1, fun n => ?_⟩
      rw [h2, List.mem_append, List.mem_singleton]
      exact ⟨.inl, fun z => z.elim id fun e => (h2 n).mp (e ▸ h)⟩
    · rw [if_neg h]
      refine ⟨h1.put h (.inl rfl), fun n => ?_⟩
      unfold kys at h2 ⊢
      rw [List.map_append, List.mem_append, List.mem_append, h2]
      simp
theorem bstep_ok {L : Wl} {k n : Nat} {p : List Nat} (hk : L[k]? = some (n, p)) (h : Wy L) (cs : List Nat) : Wy (bstep L p cs) ∧ (∃ r, bstep L p cs = L ++ r) ∧ ∀ c, c ∈ kys (bstep L p cs) ↔ c ∈ kys L ∨ c ∈ cs := by
  induction cs using snocR with
  | h0 => exact ⟨h, ⟨[], (List.append_nil _).symm⟩, fun c => by simp [bstep]⟩
  | h1 cs c ih =>
    obtain ⟨h1, ⟨r, h2⟩, h3⟩ := ih
    rw [bstep_snoc]
    by_cases hc : c ∈ kys (bstep L p cs)
    · rw [if_pos hc]
      refine ⟨h1, ⟨r, h2⟩, fun m => ?_⟩
      rw [h3, List.mem_append, List.mem_singleton, ← or_assoc]
      exact ⟨.inl, fun z => z.elim id fun e => (h3 m).mp (e ▸ hc)⟩
    · rw [if_neg hc]
      refine ⟨h1.put hc (.inr ⟨k, n, p, ?_, rfl⟩), ⟨r ++ [(c, p ++ [c])], by rw [h2, List.append_assoc]⟩, fun m => ?_⟩
      · rw [h2, List.getElem?_append_left (List.getElem?_eq_some_iff.mp hk).1]; exact hk
      · have : kys (bstep L p cs ++ [(c, p ++ [c])]) = kys (bstep L p cs) ++ [c] := by unfold kys; rw [List.map_append]; rfl
        rw [this, List.mem_append, h3, List.mem_append, or_assoc]
/-- k turns -/
def bIt (g : List (List Nat)) (L : Wl) : Nat → Wl
  | 0 => L
  | k + 1 => match (bIt g L k)[k]? with
    | some (n, p) => bstep (bIt g L k) p (g.getD n [])
    | none => bIt g L k
theorem bIt_some {g : List (List Nat)} {L : Wl} {k n : Nat} {p : List Nat} (h : (bIt g L k)[k]? = some (n, p)) : bIt g L (k + 1) = bstep (bIt g L k) p (g.getD n []) := by
  show (match (bIt g L k)[k]? with | some (n, p) => bstep (bIt g L k) p (g.getD n []) | none => bIt g L k) = _
  rw [h]
theorem bIt_none {g : List (List Nat)} {L : Wl} {k : Nat} (h : (bIt g L k).length ≤ k) : ∀ j, k ≤ j → bIt g L j = bIt g L k := by
  intro j hj
  induction j with
  | zero => rw [Nat.le_zero.mp hj]
  | succ j ih =>
    by_cases e : k = j + 1
    · rw [e]
    · have ih := ih (by omega)
      show (match (bIt g L j)[j]? with | some (n, p) => bstep (bIt g L j) p (g.getD n []) | none => bIt g L j) = _
      rw [ih, List.getElem?_eq_none (by omega)]
theorem bIt_ok {g : List (List Nat)} {L : Wl} (h : Wy L) (k : Nat) : Wy (bIt g L k) := by
  induction k with
  | zero => exact h
  | succ k ih =>
    show Wy (match (bIt g L k)[k]? with | some (n, p) => bstep (bIt g L k) p (g.getD n []) | none => bIt g L k)
    cases e : (bIt g L k)[k]? with
    | none => exact ih
    | some np => exact (bstep_ok (n := np.1) (p := np.2) e ih _).1
theorem bIt_pre {g : List (List Nat)} {L : Wl} (h : Wy L) {k j : Nat} (hj : k ≤ j) : ∃ r, bIt g L j = bIt g L k ++ r := by
  induction j with
  | zero => rw [Nat.le_zero.mp hj]; exact ⟨[], (List.append_nil _).symm⟩
  | succ j ih =>
    by_cases e : k = j + 1
    · rw [e]; exact ⟨[], (List.append_nil _).symm⟩
    · obtain ⟨r, er⟩ := ih (by omega)
      show ∃ r, (match (bIt g L j)[j]? with | some (n, p) => bstep (bIt g L j) p (g.getD n []) | none => bIt g L j) = _
      cases q : (bIt g L j)[j]? with
      | none => exact ⟨r, er⟩
      | some np =>
        obtain ⟨r2, e2⟩ := (bstep_ok (n := np.1) (p := np.2) q (bIt_ok h j) (g.getD np.1 [])).2.1
        exact ⟨r ++ r2, by rw [← List.append_assoc, ← er]; exact e2⟩
theorem bIt_lt {g : List (List Nat)} {L : Wl} (h : Wy L) (h0 : ∀ n ∈ kys L, n < g.length) (hg : ∀ cs ∈ g, ∀ c ∈ cs, c < g.length) (k : Nat) : ∀ n ∈ kys (bIt g L k), n < g.length := by
  induction k with
  | zero => exact h0
  | succ k ih =>
    show ∀ n ∈ kys (match (bIt g L k)[k]? with | some (n, p) => bstep (bIt g L k) p (g.getD n []) | none => bIt g L k), n < g.length
    cases q : (bIt g L k)[k]? with
    | none => exact ih
    | some np =>
      intro n hn
      rcases ((bstep_ok (n := np.1) (p := np.2) q (bIt_ok h k) (g.getD np.1 [])).2.2 n).mp hn with z | z
      · exact ih n z
      · rw [List.getD_eq_getElem?_getD] at z
        cases e : g[np.1]? with
        | none => rw [e] at z; simp at z
        | some cs => rw [e] at z; exact hg cs (List.mem_of_getElem? e) n z
theorem bIt_len {g : List (List Nat)} {L : Wl} (h : Wy L) (h0 : ∀ n ∈ kys L, n < g.length) (hg : ∀ cs ∈ g, ∀ c ∈ cs, c < g.length) (k : Nat) : (bIt g L k).length ≤ g.length := by
  have := nd_len (bIt_ok (g := g) h k).nd (bIt_lt h h0 hg k)
  unfold kys at this
  rwa [List.length_map] at this
/-- the way to n, if there is one -/
def wayE (L : Wl) (n : Nat) : Option (List Nat) := (L.find? fun e => decide (e.1 = n)).map Prod.snd
theorem wayE_at {L : Wl} (nd : (kys L).Nodup) {i n : Nat} {p : List Nat} (h : L[i]? = some (n, p)) : wayE L n = some p := by
  unfold wayE
  induction L generalizing i with
  | nil => simp at h
  | cons e L ih =>
    cases i with
    | zero =>
      cases h
      rw [List.find?_cons_of_pos (by simp)]
      rfl
    | succ i =>
      have h' : L[i]? = some (n, p) := by simpa using h
      have nd' := List.nodup_cons.mp nd
      rw [List.find?_cons_of_neg]
      · exact ih nd'.2 h'
      · simp only [decide_eq_true_eq]
        intro z
        refine nd'.1 ?_
        rw [z]
        exact List.mem_map.mpr ⟨_, List.mem_of_getElem? h', rfl⟩
theorem wayE_none {L : Wl} {n : Nat} (h : n ∉ kys L) : wayE L n = none := by
  unfold wayE
  rw [Option.map_eq_none_iff, List.find?_eq_none]
  intro e he
  simp only [decide_eq_true_eq]
  exact fun z => h (List.mem_map.mpr ⟨e, he, z⟩)
theorem key_at {L : Wl} {n : Nat} (h : n ∈ kys L) : ∃ (i : Nat) (p : List Nat), L[i]? = some (n, p) := by
  obtain ⟨e, he, rfl⟩ := List.mem_map.mp h
  obtain ⟨i, hi, rfl⟩ := List.getElem_of_mem he
  exact ⟨i, L[i].2, List.getElem?_eq_getElem hi⟩
/-- a way of the first turns is one of all -/
theorem way_stop {g : List (List Nat)} {L : Wl} (h : Wy L) {k N n : Nat} (hk : k ≤ N) (hs : n ∈ kys (bIt g L k) ∨ (bIt g L k).length ≤ k) : wayE (bIt g L N) n = wayE (bIt g L k) n := by
  by_cases hn : n ∈ kys (bIt g L k)
  · obtain ⟨i, p, e⟩ := key_at hn
    obtain ⟨r, er⟩ := bIt_pre (g := g) h hk
    rw [wayE_at (bIt_ok h k).nd e]
    refine wayE_at (i := i) (bIt_ok h N).nd ?_
    rw [er, List.getElem?_append_left (List.getElem?_eq_some_iff.mp e).1]
    exact e
  · rw [bIt_none (hs.resolve_left hn) N hk]
/-- what stands ahead of the last -/
def parE (p : List Nat) : Option Nat := p.dropLast.getLast?
theorem parE_two (q : List Nat) (m n : Nat) : parE (q ++ [m] ++ [n]) = some m := by
  unfold parE
  rw [List.dropLast_concat, List.getLast?_concat]
theorem Wy.last {L : Wl} (h : Wy L) {i n : Nat} {p : List Nat} (e : L[i]? = some (n, p)) : ∃ q, p = q ++ [n] := by
  rcases h.way i n p e with rfl | ⟨_, _, q, _, _, rfl⟩
  · exact ⟨[], rfl⟩
  · exact ⟨q, rfl⟩
/-- one step back on a way -/
theorem Wy.back {L : Wl} (h : Wy L) {i n : Nat} {p : List Nat} (e : L[i]? = some (n, p)) : (p = [n] ∧ parE p = none) ∨ ∃ (j m : Nat) (q : List Nat), L[j]? = some (m, q) ∧ p = q ++ [n] ∧ parE p = some m := by
  rcases h.way i n p e with rfl | ⟨j, m, q, _, e2, rfl⟩
  · exact .inl ⟨rfl, rfl⟩
  · obtain ⟨q', rfl⟩ := h.last e2
    exact .inr ⟨j, m, _, e2, rfl, parE_two _ _ _⟩
end My
namespace My
open PySem L2 XV
open C8 (pss_cut tCut cutS_slice pe_gc)
theorem units64 {A : Around} {k : Nat} (hr : Room k A) : A.units + 64 < cLine := hr.units
/-- the dict whose keys are these -/
def dR (R : List Nat) : List (Key × V) := R.map fun n => (.inl ((n : Nat) : Int), .bl true)
theorem dR_mem {R : List Nat} {n : Nat} : (dR R).any (fun kv => decide (kv.1 = (.inl ((n : Nat) : Int) : Key))) = decide (n ∈ R) := by
  unfold dR
  rw [List.any_map]
  rw [Bool.eq_iff_iff]
  simp only [List.any_eq_true, Function.comp, decide_eq_true_eq]
  constructor
  · rintro ⟨x, hx, e⟩
    injection e with e
    have : x = n := by omega
    exact this ▸ hx
  · exact fun h => ⟨n, h, rfl⟩
theorem putK_dR {R : List Nat} {n : Nat} : putK (dR R) (.inl ((n : Nat) : Int)) (.bl true) = dR (if n ∈ R then R else R ++ [n]) := by
  unfold putK
  rw [dR_mem]
  by_cases h : n ∈ R
  · rw [if_pos (decide_eq_true h), if_pos h]
    unfold dR
    rw [List.map_map]
    refine List.map_congr_left fun x _ => ?_
    simp only [Function.comp]
    split
    · rename_i e; rw [e]
    · rfl
  · rw [if_neg (by simpa using h), if_neg h]
    unfold dR
    rw [List.map_append]
    rfl
theorem valV_dR {R : List Nat} {n : Nat} : (valV (dR R) (.inl ((n : Nat) : Int))).isSome = decide (n ∈ R) := by
  rw [← dR_mem]
  unfold valV
  rw [Option.isSome_map, Bool.eq_iff_iff, List.find?_isSome]
  simp
theorem keys_dR (R : List Nat) : ((dR R).map fun kv => kV kv.1) = numV R := by
  unfold dR numV
  rw [List.map_map]
  rfl
theorem dR_len (R : List Nat) : (dR R).length = R.length := List.length_map ..
theorem nd_len_of {g : List (List Nat)} {S R W : List Nat} (F : Dfs g S R W) (lt : ∀ n ∈ S, n < g.length) (hg : ∀ cs ∈ g, ∀ c ∈ cs, c < g.length) : W.length ≤ g.length :=
  nd_len F.wn fun n hn => rch_lt lt hg (F.rch n (F.wr n hn))
section
variable {P : Program} {w : World} {K : PySem.W.Frag} {mg : Str → Option Value} {base : Heap} {A : Ads}
def spReach (K : PySem.W.Frag) (A : Ads) : Sp := fun vs H Q _ => ∃ s l g ns, vs = [.ref s, .ref l] ∧ Gr A H s g ∧ SqL K H l (numV ns) ∧ ns.length ≤ 100 ∧ (∀ n ∈ ns, n < g.length) ∧
  ∀ (H' : Hp) (r : Addr) (R : List Nat), Same H H' → H r = none → (∀ n, n ∈ R ↔ Rch g ns n) → R.Nodup → H' r = some (.lst (numV (below g.length fun x => decide (x ∈ R)))) → Q (.ref r) H'
theorem ok_reached_from (L : Lib P K mg A) : FnOk P w K mg base CX0 3 L.reached_from.f L.reached_from.fd ["store", "numbers"] (spReach K A) := by
  have G_children_of : FnOk P w K mg base CX0 2 L.children_of.f L.children_of.fd ["store", "number"] (spCh A) := ok_children_of L
  refine L.reached_from.F.ok sc_reached_from (fun vs H Q E h => ?_) (fun cdv A' outer s H vs Q E hr h => ?_)
  · obtain ⟨s, l, g, ns, rfl, _⟩ := h
    rfl
  · obtain ⟨st, l, g, ns, rfl, G, hl, nl, lt, q⟩ := h
    have hu : (A'.deeper (PyProof.Rows.envOfC ("reached_from" : Str) (defScope s_reached_from) s.heap.objs.size L.reached_from.f cdv)).units + 1 < cLine := by
      have := units64 hr
      omega
    have ls : ∀ {H' : Hp}, Same H H' → SqL K H' l (numV ns) := fun k => by
      rcases hl with (h | ⟨ob, h⟩) | h
      · exact .inl (.inl (k _ _ h))
      · exact .inl (.inr ⟨ob, k _ _ h⟩)
      · exact .inr h
    refine ⟨_, (pss_cons (ps_setDc (i := 2) (own := [("number", 4)]) (g := gName 4) (tt := tYes) (by rfl) sc_reached_from.nd rfl rfl (sw_dict rfl rfl rfl (by decide +kernel)) (pi_list (pv 1)) (blkOk_by (own := [("number", 4)]) (N := ["store", "numbers", "reached", "waiting", "number", "child"]) (sc := defScope (top 19)) (by decide +kernel)) (fun _ _ _ _ _ => by exact (pg_name (i := 4) sc_reached_from.nd rfl (.inl rfl))) (fun _ _ _ _ _ => by exact pts_nil) (fun _ _ _ _ _ => by exact (pv 4)) (fun _ _ _ _ _ => by exact pe_bl))
      (pss_cons (ps_set (i := 3) sc_reached_from.nd rfl (.inl rfl) (pe_callTy (call_list_dK (by rfl)) (by rfl) L.z_list (by decide +kernel) (pa_cons (pv 2) pa_nil)))
      (pss_cons (ps_while PassesOwn.never (pt_truth (pv 3) (by intro _; rfl))
        (pss_cons (ps_set (i := 4) sc_reached_from.nd rfl (.inl rfl) (pe_bm0 PySem.F.plainAttrs_list PySem.F.slot_list_pop PySem.F.type_list_pop mt_pop (pv 3)))
      (pss_one (ps_for PassesOwn.never rfl (pi_list (pe_call G_children_of (hr.mono (by omega)) (by rfl) L.children_of.g L.children_of.F.kp L.children_of.b .nil pass0 (pa_cons (pv 0) (pa_cons (pv 4) pa_nil)))) (pg_name (i := 5) sc_reached_from.nd rfl (.inl rfl))
        (pss_one (ps_if (pt_cmp (pc_dnotin hu (pv 5) (pv 2)))
        (pss_cons (ps_dput hu (pv 2) (pv 5) pe_bl rfl)
      (pss_one (ps_expr (pe_bm PySem.F.plainAttrs_list PySem.F.slot_list_append PySem.F.type_list_append mt_append (pv 3) (pa_cons (pv 5) pa_nil)))))
        pss_nil))))))
      (pss_one (ps_ret (pe_callB cr_sortedI (by rfl) L.z_sorted (by decide +kernel) (pa_cons (pe_callTy (call_list_dK (by rfl)) (by rfl) L.z_list (by decide +kernel) (pa_cons (pv 2) pa_nil)) pa_nil))))))), ?_⟩
    refine ⟨_, rfl, l, rfl, ⟨_, hl⟩, fun D nD => ?_⟩
    refine dc_w walk_list (fun i H' => Same H H' ∧ H' D = some (.dK (dR (adds [] (ns.take i))))) ⟨same_upd nD, upd_same⟩ (fun i H' _ h => ls h.1) ?_ ?_
    · rintro i v Ha Hb hi ⟨sa, ha⟩ ⟨rfl, hv⟩
      unfold numV at hv
      rw [List.getElem?_map] at hv
      obtain ⟨n, hn, rfl⟩ := Option.map_eq_some_iff.mp hv
      have al : (adds [] (ns.take i)).length ≤ g.length := nd_len (adds_nd (by simp)) fun x hx => lt x (List.mem_of_mem_take ((adds_mem.mp hx).resolve_left (by simp)))
      have gl := G.le
      refine ⟨rfl, _, rfl, dR (adds [] (ns.take i)), .inl ((n : Nat) : Int), rfl, ha, ?_, My.Same.put sa nD, ?_⟩
      · rw [dR_len]
        exact Nat.lt_of_le_of_lt (m := 1000) (by omega) (by decide)
      · rw [upd_same, putK_dR, List.take_add_one, hn]
        exact congrArg (fun l => some (HO.dK (dR l))) (adds_snoc [] (ns.take i) n).symm
    intro H1 ⟨s1, h1⟩
    rw [numV_len, List.take_length] at h1
    refine ⟨_, rfl, D, _, rfl, h1, fun W nW => ?_⟩
    rw [keys_dR]
    have gl := G.le
    have s2 := s1.trans (same_upd (o := .lst (numV (adds [] ns))) nW)
    have DW : D ≠ W := ne_of_none h1 nW
    refine ⟨fun m σ H' => ∃ (R Wt : List Nat) (y4 y5 : Option V), m = 2 * (g.length - R.length) + Wt.length ∧ σ = [some (.ref st), some (.ref l), some (.ref D), some (.ref W), y4, y5] ∧ Same H H' ∧ H' D = some (.dK (dR R)) ∧ H' W = some (.lst (numV Wt)) ∧ Dfs g ns R Wt, ⟨_, _, _, none, none, rfl, rfl, s2, by rw [upd_ne DW]; exact h1, upd_same, Dfs.start g ns⟩, ?_⟩
    rintro m σ H2 ⟨R, Wt, y4, y5, rfl, rfl, k2, hD2, hW2, F⟩
    have Rl := F.le lt G.lt
    refine ⟨_, rfl, _, .inl ⟨_, SqL.of hW2, rfl⟩, ?_⟩
    have nD0 := nD
    have nW0 : H W = none := s1.free nW
    rcases List.eq_nil_or_concat Wt with rfl | ⟨W0, n, rfl⟩
    · refine iteF ?_
      have W := W
      refine ⟨_, rfl, D, _, rfl, hD2, fun l2 nl2 => ?_⟩
      rw [keys_dR]
      have s3 := k2.trans (same_upd (o := .lst (numV R)) nl2)
      have e2 : numV R = (R.map fun x => ((x : Nat) : Int)).map V.int := by unfold numV; rw [List.map_map]; rfl
      refine ⟨l2, R.map fun x => ((x : Nat) : Int), rfl, SqL.of (by rw [← e2]; exact upd_same), fun ks p pm rs np => ?_⟩
      have e4 := sorted_below F.nd (fun x hx => rch_lt lt G.lt (F.rch x hx)) pm rs
      refine q _ p R (s3.trans (same_upd np)) (s3.free np) (fun x => F.all) F.nd ?_
      rw [upd_same, e4]
      unfold numV
      rw [List.map_map]
      rfl
    · rw [List.concat_eq_append] at hW2 F ⊢
      have hn : n ∈ R := F.wr n (by simp)
      obtain ⟨cs, hcs⟩ : ∃ cs, g[n]? = some cs := ⟨_, List.getElem?_eq_getElem (rch_lt lt G.lt (F.rch n hn))⟩
      refine ite2 (fun _ => ?_) (fun h => absurd h ?_)
      refine ⟨fun σ' H' => ∃ m', m' < 2 * (g.length - R.length) + (W0 ++ [n]).length ∧ ∃ (R Wt : List Nat) (y4 y5 : Option V), m' = 2 * (g.length - R.length) + Wt.length ∧ σ' = [some (.ref st), some (.ref l), some (.ref D), some (.ref W), y4, y5] ∧ Same H H' ∧ H' D = some (.dK (dR R)) ∧ H' W = some (.lst (numV Wt)) ∧ Dfs g ns R Wt, fun _ _ h => h, ?_⟩
      refine ⟨_, rfl, .inl ⟨rfl, _, SqL.of hW2⟩, W, _, .int ((n : Nat) : Int), rfl, rfl, hW2, ?_, ?_⟩
      · rw [numV_len]
        unfold numV
        rw [List.getElem?_map, List.length_append, List.length_singleton, Nat.add_sub_cancel, List.getElem?_append_right (Nat.le_refl _), Nat.sub_self]
        rfl
      have e3 : (numV (W0 ++ [n])).dropLast = numV W0 := by
        unfold numV
        rw [List.map_append]
        exact List.dropLast_concat
      rw [e3]
      have k3 : Same H (upd H2 W (.lst (numV W0))) := My.Same.put k2 nW0
      have hD3 : upd H2 W (.lst (numV W0)) D = some (.dK (dR R)) := by rw [upd_ne DW]; exact hD2
      have hW3 : upd H2 W (.lst (numV W0)) W = some (.lst (numV W0)) := upd_same
      generalize upd H2 W _ = H3 at k3 hD3 hW3 ⊢
      refine ⟨_, rfl, _, rfl, st, g, n, cs, rfl, G.same k3, hcs, fun H4 r s4 nr hr4 cl => ?_⟩
      refine ⟨r, rfl, ⟨_, SqL.of hr4⟩, for_list (K := K) (a := r) (xs := numV cs) (fun i σ H' => ∃ (r0 : List Nat) (y5 : Option V), σ = [some (.ref st), some (.ref l), some (.ref D), some (.ref W), some (.int ((n : Nat) : Int)), y5] ∧ Same H H' ∧ H' r = some (.lst (numV cs)) ∧ adds R (cs.take i) = R ++ r0 ∧ H' D = some (.dK (dR (R ++ r0))) ∧ H' W = some (.lst (numV (W0 ++ r0))) ∧ r0.length ≤ i) ⟨[], _, rfl, k3.trans s4, hr4, by simp [adds], by rw [List.append_nil]; exact s4 _ _ hD3, by rw [List.append_nil]; exact s4 _ _ hW3, Nat.le_refl _⟩ (fun i σ H' _ h => by obtain ⟨_, _, _, _, h, _⟩ := h; exact SqL.of h) ?_ ?_⟩
      · rintro i v σ H5 hv ⟨r0, y5', rfl, k5, hr5, e5, hD5, hW5, le5⟩
        unfold numV at hv
        rw [List.getElem?_map] at hv
        obtain ⟨c, hc, rfl⟩ := Option.map_eq_some_iff.mp hv
        have hi := (List.getElem?_eq_some_iff.mp hc).1
        have wl : (W0 ++ [n]).length ≤ g.length := nd_len_of F lt G.lt
        rw [List.length_append, List.length_singleton] at wl
        have gl := G.le
        have rD : r ≠ D := fun z => by rw [z, hD5] at hr5; cases hr5
        have rW : r ≠ W := fun z => by rw [z, s4 _ _ hW3] at hr4; exact absurd nr (by rw [z, hW3]; nofun)
        have e6 : adds R (cs.take (i + 1)) = if c ∈ R ++ r0 then R ++ r0 else R ++ (r0 ++ [c]) := by
          rw [List.take_add_one, hc]
          show adds R (cs.take i ++ [c]) = _
          rw [adds_snoc, e5, List.append_assoc]
        refine ⟨_, rfl, _, rfl, D, _, rfl, DGet.k (k := Sum.inl ((c : Nat) : Int)) hD5, _, rfl, ?_⟩
        rw [valV_dR]
        by_cases hm : c ∈ R ++ r0
        · rw [decide_eq_true hm]
          rw [if_pos hm] at e6
          exact iteF ⟨r0, _, rfl, k5, hr5, e6, hD5, hW5, by omega⟩
        · rw [decide_eq_false hm]
          rw [if_neg hm] at e6
          refine iteT ?_
          refine ⟨_, rfl, _, rfl, D, _, rfl, DPut.k (k := Sum.inl ((c : Nat) : Int)) hD5 ?_, ?_⟩
          · rw [dR_len, List.length_append]
            exact Nat.lt_of_le_of_lt (m := 1000) (by omega) (by decide)
          rw [putK_dR, if_neg hm, List.append_assoc]
          have k6 : Same H (upd H5 D (.dK (dR (R ++ (r0 ++ [c]))))) := My.Same.put k5 nD0
          have hW6 : upd H5 D (.dK (dR (R ++ (r0 ++ [c])))) W = some (.lst (numV (W0 ++ r0))) := by rw [upd_ne DW.symm]; exact hW5
          refine ⟨_, rfl, .inl ⟨rfl, _, SqL.of hW6⟩, _, rfl, W, _, _, rfl, rfl, hW6, ?_, ?_⟩
          · rw [numV_len, List.length_append]
            exact Nat.lt_of_le_of_lt (m := 1000) (by omega) (by decide)
          refine ⟨r0 ++ [c], _, rfl, My.Same.put k6 nW0, ?_, e6, ?_, ?_, by simp; omega⟩
          · rw [upd_ne rW, upd_ne rD]; exact hr5
          · rw [upd_ne DW]; exact upd_same
          · rw [upd_same, ← List.append_assoc]
            exact congrArg (fun l => some (HO.lst l)) (numV_app (W0 ++ r0) [c])
      · rintro σ H5 ⟨r0, y5', rfl, k5, hr5, e5, hD5, hW5, le5⟩
        rw [numV_len, List.take_length] at e5
        have F' := F.step hcs e5
        have Rl' := F'.le lt G.lt
        rw [List.length_append] at Rl'
        refine ⟨_, ?_, R ++ r0, W0 ++ r0, _, _, rfl, rfl, k5, hD5, hW5, F'⟩
        rw [List.length_append, List.length_append, List.length_append, List.length_singleton]
        omega
      · simp [numV]
end
end My
namespace My
open PySem L2 XV
open C8 (pss_cut tCut cutS_slice pe_gc)
theorem below_succ (n : Nat) (p : Nat → Bool) : below (n + 1) p = below n p ++ if p n = true then [n] else [] := by
  unfold below
  rw [List.range_succ, List.filter_append]
  congr 1
  by_cases h : p n = true
  · rw [if_pos h]; exact List.filter_cons_of_pos h
  · rw [if_neg h]; exact List.filter_cons_of_neg h
theorem below_len (n : Nat) (p : Nat → Bool) : (below n p).length ≤ n := by
  unfold below
  exact Nat.le_trans (List.length_filter_le _ _) (by rw [List.length_range]; exact Nat.le_refl _)
theorem below_nd (n : Nat) (p : Nat → Bool) : (below n p).Nodup := List.nodup_range.filter _
theorem below_mem {n : Nat} {p : Nat → Bool} {x : Nat} : x ∈ below n p ↔ x < n ∧ p x = true := by
  unfold below
  rw [List.mem_filter, List.mem_range]
section
variable {P : Program} {w : World} {K : PySem.W.Frag} {mg : Str → Option Value} {base : Heap} {A : Ads}
def spLost (A : Ads) : Sp := fun vs H Q _ => ∃ m s g fs, vs = [.ref m] ∧ Mch A H m s fs ∧ Gr A H s g ∧ (∀ n ∈ rootsL fs, n < g.length) ∧
  ∀ (H' : Hp) (r : Addr) (R : List Nat), Same H H' → H r = none → (∀ n, n ∈ R ↔ Rch g (rootsL fs) n) → H' r = some (.lst (numV (below g.length fun x => !decide (x ∈ R)))) → Q (.ref r) H'
theorem ok_lost_objects (L : Lib P K mg A) : FnOk P w K mg base CX0 4 L.lost_objects.f L.lost_objects.fd ["machine"] (spLost A) := by
  have G_reached_from : FnOk P w K mg base CX0 3 L.reached_from.f L.reached_from.fd ["store", "numbers"] (spReach K A) := ok_reached_from L
  have G_roots_of : FnOk P w K mg base CX0 2 L.roots_of.f L.roots_of.fd ["machine"] (spRoots A) := ok_roots_of L
  refine L.lost_objects.F.ok sc_lost_objects (fun vs H Q E h => ?_) (fun cdv A' outer s H vs Q E hr h => ?_)
  · obtain ⟨m, s, g, fs, rfl, _⟩ := h
    rfl
  · obtain ⟨m, st, g, fs, rfl, M, G, lt, q⟩ := h
    have hu : (A'.deeper (PyProof.Rows.envOfC ("lost_objects" : Str) (defScope s_lost_objects) s.heap.objs.size L.lost_objects.f cdv)).units + 1 < cLine := by
      have := units64 hr
      omega
    have gl := G.le
    have rl : (rootsL fs).length ≤ 100 := by
      obtain ⟨⟨dm, c, b, f, p, X, h1, h2, h3, h4⟩, le⟩ := M
      have := roots_len (fs := fs) fun f hf => by
        obtain ⟨j, hj, rfl⟩ := List.getElem_of_mem hf
        have := (h4 j X[j] fs[j] (List.getElem?_eq_getElem (by omega)) (List.getElem?_eq_getElem hj)).le
        unfold F3.all
        rw [List.length_append, List.length_append]
        omega
      omega
    obtain ⟨dm, c, b, f, p, X, h1, _⟩ := M.ex
    refine ⟨_, (pss_cons (ps_set (i := 1) sc_lost_objects.nd rfl (.inr rfl) (pe_dc (own := [("number", 2)]) (g := gName 2) (tt := tYes) (by rfl) sc_lost_objects.nd (pi_list (pe_call G_reached_from (hr.mono (by omega)) (by rfl) L.reached_from.g L.reached_from.F.kp L.reached_from.b .nil pass0 (pa_cons (pe_fld (pv 0) rfl) (pa_cons (pe_call G_roots_of (hr.mono (by omega)) (by rfl) L.roots_of.g L.roots_of.F.kp L.roots_of.b .nil pass0 (pa_cons (pv 0) pa_nil)) pa_nil)))) (blkOk_by (own := [("number", 2)]) (N := ["machine", "reached", "number"]) (sc := defScope (top 20)) (by decide +kernel)) (fun _ _ _ _ _ => by exact (pg_name (i := 2) sc_lost_objects.nd rfl (.inl rfl))) (fun _ _ _ _ _ => by exact pts_nil) (fun _ _ _ _ _ => by exact (pv 2)) (fun _ _ _ _ _ => by exact pe_bl)))
      (pss_one (ps_ret (pe_lc (own := [("number", 2)]) (g := gName 2) (by rfl) sc_lost_objects.nd (pi_range1 (by rfl) L.z_range (pa_cons (pe_callB call_len_seq (by rfl) L.z_len PySem.boot_len (pa_cons (pe_fld (pe_fld (pv 0) rfl) rfl) pa_nil)) pa_nil)) (blkOk_by (own := [("number", 2)]) (N := ["machine", "reached", "number"]) (sc := defScope (top 20)) (by decide +kernel)) (fun _ _ _ _ _ => (pg_name (i := 2) sc_lost_objects.nd rfl (.inl rfl))) (fun _ _ _ _ _ => pts_one (pt_cmp (pc_dnotin (by exact hu) (pv 2) (pv 1)))) (fun _ _ _ _ _ => (pv 2)))))), ?_⟩
    refine ⟨_, rfl, m, A.Machine, dm, _, _, rfl, h1, L.c_Machine.cl, L.n_Machine_store, m_store _ _ _ _ _, _, rfl, m, st, fs, rfl, M, fun H1 r1 s1 n1 hr1 => ?_⟩
    refine ⟨st, r1, g, _, rfl, G.same s1, SqL.of hr1, rl, lt, fun H2 r2 R s2 n2 hR nd hr2 => ?_⟩
    have s12 := s1.trans s2
    refine ⟨r2, rfl, ⟨_, SqL.of hr2⟩, fun D nD => ?_⟩
    refine dc_w walk_list (fun i H' => Same H2 H' ∧ H' D = some (.dK (dR ((below g.length fun x => decide (x ∈ R)).take i)))) ⟨same_upd nD, upd_same⟩ (fun i H' _ h => SqL.of (h.1 _ _ hr2)) ?_ ?_
    · rintro i v Ha Hb hi ⟨sa, ha⟩ ⟨rfl, hv⟩
      unfold numV at hv
      rw [List.getElem?_map] at hv
      obtain ⟨n, hn, rfl⟩ := Option.map_eq_some_iff.mp hv
      have bl := below_len g.length fun x => decide (x ∈ R)
      refine ⟨rfl, _, rfl, dR ((below g.length fun x => decide (x ∈ R)).take i), .inl ((n : Nat) : Int), rfl, ha, ?_, My.Same.put sa nD, ?_⟩
      · rw [dR_len, List.length_take]
        exact Nat.lt_of_le_of_lt (m := 1000) (by omega) (by decide)
      · rw [upd_same, putK_dR, List.take_add_one, hn, if_neg]
        · rfl
        · intro z
          have nd2 := below_nd g.length fun x => decide (x ∈ R)
          obtain ⟨j, hj, e⟩ := List.getElem_of_mem z
          rw [List.length_take] at hj
          have e1 : (below g.length fun x => decide (x ∈ R))[j]? = some n := by
            rw [List.getElem_take] at e
            rw [← e]
            exact List.getElem?_eq_getElem (by omega)
          have : j = i := (List.getElem?_inj (by omega) nd2).mp (e1.trans hn.symm)
          omega
    intro H3 ⟨s3, h3⟩
    rw [numV_len, List.take_length] at h3
    have s13 := s12.trans s3
    have bR : ∀ x, x ∈ (below g.length fun x => decide (x ∈ R)) ↔ x ∈ R := fun x => by
      rw [below_mem, decide_eq_true_eq]
      exact ⟨And.right, fun h => ⟨rch_lt lt G.lt ((hR x).mp h), h⟩⟩
    obtain ⟨⟨ds, t, o, lm, Y, g1, g2, g3, _⟩, _, _⟩ := G.same s13
    refine ⟨_, rfl, m, A.Machine, dm, _, _, rfl, s13 _ _ h1, L.c_Machine.cl, L.n_Machine_store, m_store _ _ _ _ _, st, A.Store, ds, _, _, rfl, g1, L.c_Store.cl, L.n_Store_things, st_things _ _ _, t, _, rfl, .inl (SqL.of g2), (((Y.map V.ref).length : Nat) : Int), rfl, by omega, by rw [List.length_map]; omega, fun Z nZ => ?_⟩
    refine lc_range (lo := 0) (n := (Y.map V.ref).length) (fun i H' => Same H3 H' ∧ H' Z = some (.lst (numV (below i fun x => !decide (x ∈ R))))) ⟨same_upd nZ, upd_same⟩ ?_ ?_
    · rintro i Ha hi ⟨sa, ha⟩
      rw [Int.zero_add]
      refine ⟨rfl, ?_⟩
      refine ⟨_, rfl, _, rfl, D, _, rfl, DGet.k (k := Sum.inl ((i : Nat) : Int)) (sa _ _ h3), ?_⟩
      have e : (valV (dR (below g.length fun x => decide (x ∈ R))) (Sum.inl ((i : Nat) : Int))).isSome = decide (i ∈ R) := by
        rw [valV_dR, Bool.eq_iff_iff, decide_eq_true_eq, decide_eq_true_eq, bR]
      rw [e, below_succ]
      have bl := below_len i fun x => !decide (x ∈ R)
      rw [List.length_map] at hi
      refine ⟨_, rfl, ?_⟩
      by_cases hm : i ∈ R
      · rw [decide_eq_true hm]
        exact iteF ⟨sa, by rw [ha]; simp⟩
      · rw [decide_eq_false hm]
        refine iteT ⟨_, rfl, _, ha, ?_, My.Same.put sa nZ, ?_⟩
        · rw [numV_len]
          exact Nat.lt_of_le_of_lt (m := 1000) (by omega) (by decide)
        · rw [upd_same]
          exact congrArg (fun l => some (HO.lst l)) (numV_app _ [i])
    · rintro Ha ⟨sa, ha⟩
      rw [List.length_map, g3] at ha
      exact q _ Z R (s13.trans sa) (s13.free nZ) hR ha
end
end My
namespace My
open PySem L2 XV
open C8 (pss_cut tCut cutS_slice pe_gc)
def pvV : Option Nat → V
  | none => .non
  | some m => .int ((m : Nat) : Int)
/-- the dict that tells what stands ahead -/
def aD (L : Wl) : List (Key × V) := L.map fun e => (.inl ((e.1 : Nat) : Int), pvV (parE e.2))
theorem aD_len (L : Wl) : (aD L).length = L.length := List.length_map ..
theorem valV_aD {L : Wl} {n : Nat} : valV (aD L) (.inl ((n : Nat) : Int)) = (wayE L n).map fun p => pvV (parE p) := by
  unfold valV wayE aD
  induction L with
  | nil => rfl
  | cons e L ih =>
    rw [List.map_cons]
    by_cases h : e.1 = n
    · rw [List.find?_cons_of_pos (by simp [h]), List.find?_cons_of_pos (by simp [h])]
      rfl
    · rw [List.find?_cons_of_neg (by simp; omega), List.find?_cons_of_neg (by simpa using h)]
      exact ih
theorem aD_any {L : Wl} {n : Nat} : (aD L).any (fun kv => decide (kv.1 = (.inl ((n : Nat) : Int) : Key))) = decide (n ∈ kys L) := by
  unfold aD kys
  rw [List.any_map, Bool.eq_iff_iff]
  simp only [List.any_eq_true, Function.comp, decide_eq_true_eq, List.mem_map]
  constructor
  · rintro ⟨x, hx, e⟩
    injection e with e
    exact ⟨x, hx, by omega⟩
  · rintro ⟨x, hx, rfl⟩
    exact ⟨x, hx, rfl⟩
theorem putK_aD {L : Wl} {n : Nat} {p : List Nat} (h : n ∉ kys L) : putK (aD L) (.inl ((n : Nat) : Int)) (pvV (parE p)) = aD (L ++ [(n, p)]) := by
  unfold putK
  rw [aD_any, if_neg (by simpa using h)]
  unfold aD
  rw [List.map_append]
  rfl
theorem keys_aD (L : Wl) : ((aD L).map fun kv => kV kv.1) = numV (kys L) := by
  unfold aD numV kys
  rw [List.map_map, List.map_map]
  rfl
theorem valV_some {L : Wl} {n : Nat} : (valV (aD L) (.inl ((n : Nat) : Int))).isSome = decide (n ∈ kys L) := by
  rw [← aD_any]
  unfold valV
  rw [Option.isSome_map, Bool.eq_iff_iff, List.find?_isSome]
  simp
section
variable {P : Program} {w : World} {K : PySem.W.Frag} {mg : Str → Option Value} {base : Heap} {A : Ads}
def spBack : Sp := fun vs H Q _ => ∃ (D : Addr) (n : Nat) (L : Wl) (i : Nat) (p : List Nat), vs = [.ref D, .int ((n : Nat) : Int)] ∧ H D = some (.dK (aD L)) ∧ Wy L ∧ L[i]? = some (n, p) ∧ L.length ≤ 1000 ∧ p.length ≤ 1000 ∧ ∀ H' r, Same H H' → H r = none → H' r = some (.lst (numV p)) → Q (.ref r) H'
theorem ok_way_back (L : Lib P K mg A) : FnOk P w K mg base CX0 1 L.way_back.f L.way_back.fd ["ahead", "number"] spBack := by
  refine L.way_back.F.ok sc_way_back (fun vs H Q E h => ?_) (fun cdv A' outer s H vs Q E hr h => ?_)
  · obtain ⟨D, n, M, i, p, rfl, _⟩ := h
    rfl
  · obtain ⟨D, n, M, i, p, rfl, hD, Y, hi, le, pl, q⟩ := h
    have hu : (A'.deeper (PyProof.Rows.envOfC ("way_back" : Str) (defScope s_way_back) s.heap.objs.size L.way_back.f cdv)).units + 1 < cLine := by
      have := units64 hr
      omega
    refine ⟨_, (pss_cons (ps_set (i := 2) sc_way_back.nd rfl (.inl rfl) (pe_lst pa_nil))
      (pss_cons (ps_while PassesOwn.never (pt_cmpR op_notN (pv 1) pe_non (nomark _))
        (pss_cons (ps_expr (pe_bm PySem.F.plainAttrs_list PySem.F.slot_list_append PySem.F.type_list_append mt_append (pv 2) (pa_cons (pv 1) pa_nil)))
      (pss_one (ps_set (i := 1) sc_way_back.nd rfl (.inl rfl) (pe_dget hu (pv 0) (pv 1) (fun _ _ => rfl))))))
      (pss_one (ps_ret (pe_revL (pv 2)))))), ?_⟩
    refine ⟨Nat.zero_le _, fun W nW => ?_⟩
    have s1 := same_upd (o := .lst []) nW
    refine ⟨fun m σ H' => ∃ (wy : List Nat) (cur : V), σ = [some (.ref D), some cur, some (.ref W)] ∧ Same H H' ∧ H' W = some (.lst (numV wy)) ∧ ((cur = .non ∧ p = wy.reverse ∧ m = 0) ∨ ∃ (k j : Nat) (q : List Nat), cur = .int ((k : Nat) : Int) ∧ M[j]? = some (k, q) ∧ p = q ++ wy.reverse ∧ m = q.length), ⟨p.length, [], _, rfl, s1, upd_same, .inr ⟨n, i, p, rfl, hi, by simp, rfl⟩⟩, ?_⟩
    rintro m σ H2 ⟨wy, cur, rfl, k2, hW2, hc⟩
    rcases hc with ⟨rfl, hp, rfl⟩ | ⟨k, j, pk, rfl, hj, hp, rfl⟩
    · refine ⟨_, rfl, rfl, _, rfl, iteF ?_⟩
      refine ⟨_, rfl, W, _, rfl, SqL.of hW2, fun r nr => ?_⟩
      refine q _ r (k2.trans (same_upd nr)) (k2.free nr) ?_
      rw [upd_same, hp]
      unfold numV
      rw [List.map_reverse]
    · refine ⟨_, rfl, rfl, _, rfl, iteT ?_⟩
      refine ⟨fun σ' H' => ∃ m', m' < pk.length ∧ ∃ (wy : List Nat) (cur : V), σ' = [some (.ref D), some cur, some (.ref W)] ∧ Same H H' ∧ H' W = some (.lst (numV wy)) ∧ ((cur = .non ∧ p = wy.reverse ∧ m' = 0) ∨ ∃ (k j : Nat) (q : List Nat), cur = .int ((k : Nat) : Int) ∧ M[j]? = some (k, q) ∧ p = q ++ wy.reverse ∧ m' = q.length), fun _ _ h => h, ?_⟩
      have wl : wy.length ≤ 1000 := by
        have := congrArg List.length hp
        rw [List.length_append, List.length_reverse] at this
        omega
      refine ⟨_, rfl, .inl ⟨rfl, _, SqL.of hW2⟩, _, rfl, W, _, _, rfl, rfl, hW2, ?_, ?_⟩
      · rw [numV_len]
        exact Nat.lt_of_le_of_lt wl (by decide)
      have k3 : Same H (upd H2 W (.lst (numV wy ++ [.int ((k : Nat) : Int)]))) := My.Same.put k2 nW
      have e := valV_aD (L := M) (n := k)
      rw [wayE_at Y.nd hj] at e
      have dg : DGet (upd H2 W (.lst (numV wy ++ [.int ((k : Nat) : Int)]))) D (.int ((k : Nat) : Int)) (some (pvV (parE pk))) := by
        have := DGet.k (k := Sum.inl ((k : Nat) : Int)) (k3 _ _ hD)
        rw [e] at this
        exact this
      refine ⟨_, rfl, _, rfl, D, _, rfl, dg, ?_⟩
      have ew : numV wy ++ [.int ((k : Nat) : Int)] = numV (wy ++ [k]) := numV_app wy [k]
      rcases Y.back hj with ⟨h1, h2⟩ | ⟨j', k', q', h1, h2, h3⟩
      · rw [h2]
        refine ⟨0, by rw [h1]; simp, wy ++ [k], _, rfl, k3, by rw [upd_same, ew], .inl ⟨rfl, ?_, rfl⟩⟩
        rw [hp, h1, List.reverse_append]
        rfl
      · rw [h3]
        refine ⟨q'.length, by rw [h2]; simp, wy ++ [k], _, rfl, k3, by rw [upd_same, ew], .inr ⟨k', j', q', rfl, h1, ?_, rfl⟩⟩
        rw [hp, h2, List.reverse_append, List.append_assoc]
        rfl
end
end My
namespace My
open PySem L2 XV
open C8 (pss_cut tCut cutS_slice pe_gc)
theorem binit_one (S : List Nat) : ∀ e ∈ binit S, e.2 = [e.1] := by
  induction S using snocR with
  | h0 => intro e h; simp [binit] at h
  | h1 S c ih =>
    rw [binit_snoc]
    by_cases h : c ∈ kys (binit S)
    · rw [if_pos h]; exact ih
    · rw [if_neg h]
      intro e he
      rcases List.mem_append.mp he with z | z
      · exact ih e z
      · rw [List.mem_singleton.mp z]
theorem putK_binit {S : List Nat} {c : Nat} : putK (aD (binit S)) (.inl ((c : Nat) : Int)) .non = aD (binit (S ++ [c])) := by
  rw [binit_snoc]
  by_cases h : c ∈ kys (binit S)
  · rw [if_pos h]
    unfold putK
    rw [aD_any, if_pos (decide_eq_true h)]
    refine List.ext_getElem? fun i => ?_
    rw [List.getElem?_map]
    cases e : (aD (binit S))[i]? with
    | none => rfl
    | some q =>
      unfold aD at e
      rw [List.getElem?_map] at e
      obtain ⟨x, hx, rfl⟩ := Option.map_eq_some_iff.mp e
      have := binit_one S x (List.mem_of_getElem? hx)
      rw [Option.map_some]
      congr 1
      split
      · rename_i z
        have z : (Sum.inl ((x.1 : Nat) : Int) : Key) = Sum.inl ((c : Nat) : Int) := z
        rw [z, this]
        rfl
      · rfl
  · rw [if_neg h]
    exact putK_aD (p := [c]) h
theorem binit_le {S : List Nat} {n : Nat} (h : ∀ x ∈ S, x < n) : (binit S).length ≤ n := by
  obtain ⟨h1, h2⟩ := binit_ok S
  have := nd_len h1.nd fun x hx => h x ((h2 x).mp hx)
  unfold kys at this
  rwa [List.length_map] at this
def scopesL (fs : List F3) : List Nat := fs.flatMap F3.sc
theorem scopes_take {fs : List F3} {i : Nat} {f : F3} (h : fs[i]? = some f) : scopesL (fs.take (i + 1)) = scopesL (fs.take i) ++ f.sc := by
  unfold scopesL
  rw [List.take_add_one, h, Option.toList_some, List.flatMap_append, List.flatMap_singleton]
theorem way_len {L : Wl} (Y : Wy L) : ∀ (i n : Nat) (p : List Nat), L[i]? = some (n, p) → p.length ≤ i + 1 := by
  intro i
  induction i using Nat.strongRecOn with
  | ind i ih =>
    intro n p e
    rcases Y.way i n p e with rfl | ⟨j, m, q, hj, e2, rfl⟩
    · simp
    · have := ih j hj m q e2
      rw [List.length_append, List.length_singleton]
      omega
section
variable {P : Program} {w : World} {K : PySem.W.Frag} {mg : Str → Option Value} {base : Heap} {A : Ads}
/-- a way, or none, as a value -/
def WayV (H : Hp) (v : V) : Option (List Nat) → Prop
  | none => v = .non
  | some p => ∃ r, v = .ref r ∧ H r = some (.lst (numV p))
def spWay (A : Ads) : Sp := fun vs H Q _ => ∃ m s g fs n, vs = [.ref m, .int ((n : Nat) : Int)] ∧ Mch A H m s fs ∧ Gr A H s g ∧ (∀ x ∈ scopesL fs, x < g.length) ∧ ∀ H' v, Same H H' → WayV H' v (wayE (bIt g (binit (scopesL fs)) g.length) n) → Q v H'
theorem ok_way_to (L : Lib P K mg A) : FnOk P w K mg base CX0 3 L.way_to.f L.way_to.fd ["machine", "number"] (spWay A) := by
  have G_children_of : FnOk P w K mg base CX0 2 L.children_of.f L.children_of.fd ["store", "number"] (spCh A) := ok_children_of L
  have G_numbers_ofT : FnOk P w K mg base CX0 1 L.numbers_of.f L.numbers_of.fd ["values"] (spNum K A true) := ok_numbers_ofT L
  have G_way_back : FnOk P w K mg base CX0 1 L.way_back.f L.way_back.fd ["ahead", "number"] spBack := ok_way_back L
  refine L.way_to.F.ok sc_way_to (fun vs H Q E h => ?_) (fun cdv A' outer s H vs Q E hr h => ?_)
  · obtain ⟨m, s, g, fs, n, rfl, _⟩ := h
    rfl
  · obtain ⟨m, st, g, fs, n, rfl, M, G, lt, q⟩ := h
    have hu : (A'.deeper (PyProof.Rows.envOfC ("way_to" : Str) (defScope s_way_to) s.heap.objs.size L.way_to.f cdv)).units + 1 < cLine := by
      have := units64 hr
      omega
    have gl := G.le
    obtain ⟨⟨dm, c, b, f, p, X, h1, h2, h3, h4⟩, le⟩ := M
    refine ⟨_, (pss_cons (ps_setDc2 (i := 2) (own := [("frame", 7), ("first", 8)]) (vs1 := [8]) (by rfl) sc_way_to.nd rfl rfl (sw_dict rfl rfl rfl (by decide +kernel)) (pi_list (pe_fld (pv 0) rfl)) (blkOk_by (own := [("frame", 7), ("first", 8)]) (N := ["machine", "number", "ahead", "found", "at", "last", "child", "frame", "first"]) (sc := defScope (top 21)) (by decide +kernel)) (by decide) (fun _ _ _ _ _ => by exact (pg_name (i := 7) sc_way_to.nd rfl (.inl rfl))) (fun _ _ _ _ _ => by exact (show PI _ _ _ (iList K _) from pi_list (pe_call G_numbers_ofT (hr.mono (by omega)) (by rfl) L.numbers_of.g L.numbers_of.F.kp L.numbers_of.b .nil pass0 (pa_cons (show PE _ _ (tFld K _ _) from pe_fld (pv 7) rfl) pa_nil)))) (fun _ _ _ _ _ => by exact (pg_name (i := 8) sc_way_to.nd rfl (.inl rfl))) (fun _ _ _ _ _ => by exact (pv 8)) (fun _ _ _ _ _ => by exact pe_non))
      (pss_cons (ps_set (i := 3) sc_way_to.nd rfl (.inl rfl) (pe_callTy (call_list_dK (by rfl)) (by rfl) L.z_list (by decide +kernel) (pa_cons (pv 2) pa_nil)))
      (pss_cons (ps_set (i := 4) sc_way_to.nd rfl (.inl rfl) pe_int)
      (pss_cons (ps_while PassesOwn.never (PW.pt (pw_and (pt_cmpR op_lt (pv 4) (pe_callB call_len_seq (by rfl) L.z_len PySem.boot_len (pa_cons (pv 3) pa_nil)) (nomark _)) (pw_and1 (pt_cmp (pc_dnotin hu (pv 1) (pv 2))))))
        (pss_cons (ps_set (i := 5) sc_way_to.nd rfl (.inl rfl) (pe_ix ix_list (pv 3) (pv 4) (fun _ _ => rfl)))
      (pss_cons (ps_aug (i := 4) sc_way_to.nd rfl (.inl rfl) pe_int in_add)
      (pss_one (ps_for PassesOwn.never rfl (pi_list (pe_call G_children_of (hr.mono (by omega)) (by rfl) L.children_of.g L.children_of.F.kp L.children_of.b .nil pass0 (pa_cons (pe_fld (pv 0) rfl) (pa_cons (pv 5) pa_nil)))) (pg_name (i := 6) sc_way_to.nd rfl (.inl rfl))
        (pss_one (ps_if (pt_cmp (pc_dnotin hu (pv 6) (pv 2)))
        (pss_cons (ps_dput hu (pv 2) (pv 6) (pv 5) rfl)
      (pss_one (ps_expr (pe_bm PySem.F.plainAttrs_list PySem.F.slot_list_append PySem.F.type_list_append mt_append (pv 3) (pa_cons (pv 6) pa_nil)))))
        pss_nil)))))))
      (pss_one (ps_ret (pe_ifExp (pt_cmp (pc_din hu (pv 1) (pv 2))) (pe_call G_way_back (hr.mono (by omega)) (by rfl) L.way_back.g L.way_back.F.kp L.way_back.b .nil pass0 (pa_cons (pv 2) (pa_cons (pv 1) pa_nil))) pe_non))))))), ?_⟩
    refine ⟨_, rfl, m, A.Machine, dm, _, _, rfl, h1, L.c_Machine.cl, L.n_Machine_frames, m_frames _ _ _ _ _, f, rfl, ⟨_, SqL.of h2⟩, fun D nD => ?_⟩
    refine dc2_w walk_list (fun i H' => Same H H' ∧ H' D = some (.dK (aD (binit (scopesL (fs.take i)))))) ⟨same_upd nD, upd_same⟩ (fun i H' _ h => SqL.of (h.1 _ _ h2)) ?_ ?_
    · rintro i v Ha Hb hi ⟨sa, ha⟩ ⟨rfl, hv⟩
      rw [List.getElem?_map] at hv
      obtain ⟨x, hx, rfl⟩ := Option.map_eq_some_iff.mp hv
      have hi' := (List.getElem?_eq_some_iff.mp hx).1
      obtain ⟨fr, hfr⟩ : ∃ fr, fs[i]? = some fr := ⟨_, List.getElem?_eq_getElem (by omega)⟩
      obtain ⟨⟨dx, t, k, hh, tu, ti, v0, us1, us2, us3, g1, g2, g3, _⟩, l1, _⟩ := h4 i x fr hx hfr
      have ul1 := g3.len
      rw [List.length_map] at ul1
      refine ⟨rfl, ?_⟩
      refine ⟨_, rfl, x, A.Frame, dx, _, _, rfl, sa _ _ g1, L.c_Frame.cl, L.n_Frame_scope, f_scope _ _ _ _, t, us1, fr.sc.map some, rfl, SqT.of (sa _ _ g2), g3.same sa, by omega, fun Hc r sc nr hr3 => ?_⟩
      rw [nums_some] at hr3
      have rD : r ≠ D := (ne_of_none ha nr).symm
      refine ⟨r, rfl, ⟨_, SqL.of hr3⟩, dc2_in walk_list (fun j H' => Same H H' ∧ H' r = some (.lst (numV fr.sc)) ∧ H' D = some (.dK (aD (binit (scopesL (fs.take i) ++ fr.sc.take j))))) ⟨sa.trans sc, hr3, by rw [List.take_zero, List.append_nil]; exact sc _ _ ha⟩ (fun j H' _ h => SqL.of h.2.1) ?_ ?_⟩
      · rintro j v Hd He hj ⟨sd, hrd, hd⟩ ⟨rfl, hv⟩
        unfold numV at hv
        rw [List.getElem?_map] at hv
        obtain ⟨k2, hk2, rfl⟩ := Option.map_eq_some_iff.mp hv
        have bl : (binit (scopesL (fs.take i) ++ fr.sc.take j)).length ≤ g.length := binit_le fun y hy => lt y (by
          rcases List.mem_append.mp hy with z | z
          · unfold scopesL at z ⊢
            obtain ⟨f', hf', hy'⟩ := List.mem_flatMap.mp z
            exact List.mem_flatMap.mpr ⟨f', List.mem_of_mem_take hf', hy'⟩
          · exact List.mem_flatMap.mpr ⟨fr, List.mem_of_getElem? hfr, List.mem_of_mem_take z⟩)
        refine ⟨rfl, _, rfl, aD (binit (scopesL (fs.take i) ++ fr.sc.take j)), .inl ((k2 : Nat) : Int), rfl, hd, ?_, My.Same.put sd nD, by rw [upd_ne rD]; exact hrd, ?_⟩
        · rw [aD_len]
          exact Nat.lt_of_le_of_lt (m := 1000) (by omega) (by decide)
        · rw [upd_same, putK_binit, List.append_assoc, List.take_add_one, hk2]
          rfl
      · rintro Hd ⟨sd, hrd, hd⟩
        rw [numV_len, List.take_length, ← scopes_take hfr] at hd
        exact ⟨sd, hd⟩
    intro H1 ⟨s1, hD1⟩
    rw [List.length_map, h3, List.take_length] at hD1
    obtain ⟨B0, B1⟩ := binit_ok (scopesL fs)
    have lt0 : ∀ x ∈ kys (binit (scopesL fs)), x < g.length := fun x hx => lt x ((B1 x).mp hx)
    obtain ⟨L0, eL0⟩ : ∃ L0, L0 = binit (scopesL fs) := ⟨_, rfl⟩
    rw [← eL0] at hD1 B0 lt0 q
    clear B1
    refine ⟨_, rfl, D, _, rfl, hD1, fun W nW => ?_⟩
    rw [keys_aD]
    have s2 := s1.trans (same_upd (o := .lst (numV (kys L0))) nW)
    have DW : D ≠ W := ne_of_none hD1 nW
    have nW0 : H W = none := s1.free nW
    refine ⟨fun m' σ H' => ∃ (k : Nat) (y5 y6 y7 y8 : Option V), m' = g.length - k ∧ k ≤ g.length ∧ σ = [some (.ref m), some (.int ((n : Nat) : Int)), some (.ref D), some (.ref W), some (.int ((k : Nat) : Int)), y5, y6, y7, y8] ∧ Same H H' ∧ H' D = some (.dK (aD (bIt g L0 k))) ∧ H' W = some (.lst (numV (kys (bIt g L0 k)))), ⟨_, 0, none, none, none, none, rfl, Nat.zero_le _, rfl, s2, by rw [upd_ne DW]; exact hD1, upd_same⟩, ?_⟩
    rintro m' σ H2 ⟨k, y5, y6, y7, y8, rfl, hk, rfl, k2, hD2, hW2⟩
    have Yk := bIt_ok (g := g) B0 k
    have lenk := bIt_len (g := g) B0 lt0 G.lt k
    have kyl : (kys (bIt g L0 k)).length = (bIt g L0 k).length := List.length_map ..
    refine ⟨_, rfl, _, rfl, W, _, rfl, .inl (SqL.of hW2), _, _, rfl, rfl, _, rfl, ite2 (fun ha => ?_) fun ha => ?_⟩
    · have ha := of_decide_eq_true ha
      rw [numV_len, kyl] at ha
      refine ⟨_, rfl, _, rfl, D, _, rfl, DGet.k (k := Sum.inl ((n : Nat) : Int)) hD2, _, rfl, ?_⟩
      rw [valV_some]
      by_cases hm : n ∈ kys (bIt g L0 k)
      · rw [decide_eq_true hm]
        refine iteF ?_
        have hs : n ∈ kys (bIt g L0 k) ∨ (bIt g L0 k).length ≤ k := .inl hm
        clear hm
        refine ⟨_, rfl, _, rfl, D, _, rfl, DGet.k (k := Sum.inl ((n : Nat) : Int)) hD2, _, rfl, ?_⟩
        rw [valV_some]
        have ws := way_stop (g := g) (N := g.length) (n := n) B0 hk hs
        by_cases hm : n ∈ kys (bIt g L0 k)
        · rw [decide_eq_true hm]
          obtain ⟨i0, p0, hi0⟩ := key_at hm
          rw [wayE_at Yk.nd hi0] at ws
          have pl := way_len Yk i0 n p0 hi0
          have il := (List.getElem?_eq_some_iff.mp hi0).1
          refine iteT ⟨_, rfl, _, rfl, D, n, bIt g L0 k, i0, p0, rfl, hD2, Yk, hi0, by omega, by omega, fun H' r s' nr hr' => ?_⟩
          refine q H' (.ref r) (k2.trans s') ?_
          rw [ws]
          exact ⟨r, rfl, hr'⟩
        · rw [decide_eq_false hm]
          rw [wayE_none hm] at ws
          refine iteF ?_
          refine q H2 .non k2 ?_
          rw [ws]
          rfl
      · rw [decide_eq_false hm]
        refine iteT ?_
        refine ⟨fun σ' H' => ∃ m', m' < g.length - k ∧ ∃ (k : Nat) (y5 y6 y7 y8 : Option V), m' = g.length - k ∧ k ≤ g.length ∧ σ' = [some (.ref m), some (.int ((n : Nat) : Int)), some (.ref D), some (.ref W), some (.int ((k : Nat) : Int)), y5, y6, y7, y8] ∧ Same H H' ∧ H' D = some (.dK (aD (bIt g L0 k))) ∧ H' W = some (.lst (numV (kys (bIt g L0 k)))), fun _ _ h => h, ?_⟩
        obtain ⟨nk, pk, hk0⟩ : ∃ (nk : Nat) (pk : List Nat), (bIt g L0 k)[k]? = some (nk, pk) := ⟨(bIt g L0 k)[k].1, (bIt g L0 k)[k].2, List.getElem?_eq_getElem (by omega)⟩
        have hnk : nk < g.length := bIt_lt B0 lt0 G.lt k nk (List.mem_map.mpr ⟨_, List.mem_of_getElem? hk0, rfl⟩)
        obtain ⟨cs, hcs⟩ : ∃ cs, g[nk]? = some cs := ⟨_, List.getElem?_eq_getElem hnk⟩
        have eb := bIt_some hk0
        rw [List.getD_eq_getElem?_getD, hcs] at eb
        have eb : bIt g L0 (k + 1) = bstep (bIt g L0 k) pk cs := eb
        obtain ⟨qk, eqk⟩ := Yk.last hk0
        refine ⟨_, rfl, _, rfl, W, _, _, _, rfl, rfl, SqL.of hW2, atI_nat (j := k) (v := .int ((nk : Nat) : Int)) (xs := numV (kys (bIt g L0 k))) (by unfold numV kys; rw [List.getElem?_map, List.getElem?_map, hk0]; rfl), ?_⟩
        refine ⟨_, rfl, _, _, rfl, rfl, ?_⟩
        refine ⟨_, rfl, m, A.Machine, dm, _, _, rfl, k2 _ _ h1, L.c_Machine.cl, L.n_Machine_store, m_store _ _ _ _ _, _, rfl, st, g, nk, cs, rfl, G.same k2, hcs, fun H3 r s3 nr hr3 cl => ?_⟩
        refine ⟨r, rfl, ⟨_, SqL.of hr3⟩, for_list (K := K) (a := r) (xs := numV cs) (fun i σ H' => ∃ (y6 : Option V), σ = [some (.ref m), some (.int ((n : Nat) : Int)), some (.ref D), some (.ref W), some (.int (((k : Nat) : Int) + 1)), some (.int ((nk : Nat) : Int)), y6, y7, y8] ∧ Same H H' ∧ H' r = some (.lst (numV cs)) ∧ H' D = some (.dK (aD (bstep (bIt g L0 k) pk (cs.take i)))) ∧ H' W = some (.lst (numV (kys (bstep (bIt g L0 k) pk (cs.take i)))))) ⟨_, rfl, k2.trans s3, hr3, s3 _ _ hD2, s3 _ _ hW2⟩ (fun i σ H' _ h => by obtain ⟨_, _, _, h, _⟩ := h; exact SqL.of h) ?_ ?_⟩
        · rintro i v σ H4 hv ⟨y6', rfl, k4, hr4, hD4, hW4⟩
          unfold numV at hv
          rw [List.getElem?_map] at hv
          obtain ⟨c', hc, rfl⟩ := Option.map_eq_some_iff.mp hv
          obtain ⟨YM, _, kM⟩ := bstep_ok hk0 Yk (cs.take i)
          have lM : (bstep (bIt g L0 k) pk (cs.take i)).length ≤ g.length := by
            have := nd_len (n := g.length) YM.nd fun y hy => by
              rcases (kM y).mp hy with z | z
              · exact bIt_lt B0 lt0 G.lt k y z
              · exact G.lt cs (List.mem_of_getElem? hcs) y (List.mem_of_mem_take z)
            unfold kys at this
            rwa [List.length_map] at this
          have rD : r ≠ D := fun z => by rw [z, hD4] at hr4; cases hr4
          have rW : r ≠ W := fun z => by rw [z, hW2] at nr; cases nr
          have e6 : bstep (bIt g L0 k) pk (cs.take (i + 1)) = if c' ∈ kys (bstep (bIt g L0 k) pk (cs.take i)) then bstep (bIt g L0 k) pk (cs.take i) else bstep (bIt g L0 k) pk (cs.take i) ++ [(c', pk ++ [c'])] := by
            rw [List.take_add_one, hc]
            exact bstep_snoc _ _ _ _
          generalize bstep (bIt g L0 k) pk (cs.take i) = Mk at hD4 hW4 YM kM lM e6 ⊢
          refine ⟨_, rfl, _, rfl, D, _, rfl, DGet.k (k := Sum.inl ((c' : Nat) : Int)) hD4, _, rfl, ?_⟩
          rw [valV_some]
          by_cases hm : c' ∈ kys Mk
          · rw [decide_eq_true hm]
            rw [if_pos hm] at e6
            rw [e6]
            exact iteF ⟨_, rfl, k4, hr4, hD4, hW4⟩
          · rw [decide_eq_false hm]
            rw [if_neg hm] at e6
            rw [e6]
            refine iteT ?_
            refine ⟨_, rfl, _, rfl, _, rfl, D, _, rfl, DPut.k (k := Sum.inl ((c' : Nat) : Int)) hD4 ?_, ?_⟩
            · rw [aD_len]
              exact Nat.lt_of_le_of_lt (m := 1000) (by omega) (by decide)
            have ep : putK (aD Mk) (.inl ((c' : Nat) : Int)) (.int ((nk : Nat) : Int)) = aD (Mk ++ [(c', pk ++ [c'])]) := by
              rw [← putK_aD hm, eqk, parE_two]
              rfl
            rw [ep]
            have hW6 : upd H4 D (.dK (aD (Mk ++ [(c', pk ++ [c'])]))) W = some (.lst (numV (kys Mk))) := by rw [upd_ne DW.symm]; exact hW4
            refine ⟨_, rfl, .inl ⟨rfl, _, SqL.of hW6⟩, _, rfl, W, _, _, rfl, rfl, hW6, ?_, ?_⟩
            · rw [numV_len]
              unfold kys
              rw [List.length_map]
              exact Nat.lt_of_le_of_lt (m := 1000) (by omega) (by decide)
            refine ⟨_, rfl, My.Same.put (My.Same.put k4 nD) nW0, ?_, ?_, ?_⟩
            · rw [upd_ne rW, upd_ne rD]; exact hr4
            · rw [upd_ne DW]; exact upd_same
            · rw [upd_same]
              unfold kys
              rw [List.map_append]
              exact congrArg (fun l => some (HO.lst l)) (numV_app _ [c'])
        · rintro σ H4 ⟨y6', rfl, k4, hr4, hD4, hW4⟩
          rw [numV_len, List.take_length, ← eb] at hD4 hW4
          have hk1 : k + 1 ≤ g.length := by omega
          exact ⟨_, by omega, k + 1, _, _, _, _, rfl, hk1, rfl, k4, hD4, hW4⟩
    · have ha : ¬ ((k : Nat) : Int) < (((numV (kys (bIt g L0 k))).length : Nat) : Int) := fun z => ha (decide_eq_true z)
      rw [numV_len, kyl] at ha
      refine iteF ?_
      have hs : n ∈ kys (bIt g L0 k) ∨ (bIt g L0 k).length ≤ k := .inr (by omega)
      refine ⟨_, rfl, _, rfl, D, _, rfl, DGet.k (k := Sum.inl ((n : Nat) : Int)) hD2, _, rfl, ?_⟩
      rw [valV_some]
      have ws := way_stop (g := g) (N := g.length) (n := n) B0 hk hs
      by_cases hm : n ∈ kys (bIt g L0 k)
      · rw [decide_eq_true hm]
        obtain ⟨i0, p0, hi0⟩ := key_at hm
        rw [wayE_at Yk.nd hi0] at ws
        have pl := way_len Yk i0 n p0 hi0
        have il := (List.getElem?_eq_some_iff.mp hi0).1
        refine iteT ⟨_, rfl, _, rfl, D, n, bIt g L0 k, i0, p0, rfl, hD2, Yk, hi0, by omega, by omega, fun H' r s' nr hr' => ?_⟩
        refine q H' (.ref r) (k2.trans s') ?_
        rw [ws]
        exact ⟨r, rfl, hr'⟩
      · rw [decide_eq_false hm]
        rw [wayE_none hm] at ws
        refine iteF ?_
        refine q H2 .non k2 ?_
        rw [ws]
        rfl
end
end My
namespace My
open PySem L2 XV
open C8 (pss_cut tCut cutS_slice pe_gc)
theorem numV_flat (l : List Nat) : (numV l).all flatV = true := by
  unfold numV
  rw [List.all_map]
  exact List.all_eq_true.mpr fun _ _ => rfl
theorem inV_num {n : Nat} {l : List Nat} : inV (.int ((n : Nat) : Int)) (numV l) = decide (n ∈ l) := by
  unfold inV numV
  rw [List.any_map, Bool.eq_iff_iff]
  simp only [List.any_eq_true, Function.comp, decide_eq_true_eq]
  have e : ∀ a b : Int, eqV (.int a) (.int b) = true ↔ a = b := fun a b => by
    unfold eqV
    simp
  constructor
  · rintro ⟨x, hx, h⟩
    have := (e _ _).mp h
    have : x = n := by omega
    exact this ▸ hx
  · exact fun h => ⟨n, h, (e _ _).mpr rfl⟩
section
variable {P : Program} {w : World} {K : PySem.W.Frag} {mg : Str → Option Value} {base : Heap} {A : Ads}
def spClosed (K : PySem.W.Frag) (A : Ads) : Sp := fun vs H Q _ => ∃ s l g ns, vs = [.ref s, .ref l] ∧ Gr A H s g ∧ SqL K H l (numV ns) ∧ ns.length ≤ 100 ∧ (∀ n ∈ ns, n < g.length) ∧
  ∀ (H' : Hp) (r : Addr) (R : List Nat), Same H H' → H r = none → (∀ n, n ∈ R ↔ Rch g ns n) → R.length ≤ g.length → H' r = some (.lst (numV R)) → Q (.ref r) H'
theorem ok_law_closed (L : Lib P K mg A) : FnOk P w K mg base CX0 3 L.law_closed.f L.law_closed.fd ["store", "numbers"] (spClosed K A) := by
  have G_children_of : FnOk P w K mg base CX0 2 L.children_of.f L.children_of.fd ["store", "number"] (spCh A) := ok_children_of L
  refine L.law_closed.F.ok sc_law_closed (fun vs H Q E h => ?_) (fun cdv A' outer s H vs Q E hr h => ?_)
  · obtain ⟨s, l, g, ns, rfl, _⟩ := h
    rfl
  · obtain ⟨st, l, g, ns, rfl, G, hl, nl, lt, q⟩ := h
    have gl := G.le
    have ls : ∀ {H' : Hp}, Same H H' → SqL K H' l (numV ns) := fun k => by
      rcases hl with (h | ⟨ob, h⟩) | h
      · exact .inl (.inl (k _ _ h))
      · exact .inl (.inr ⟨ob, k _ _ h⟩)
      · exact .inr h
    refine ⟨_, (pss_cons (ps_set (i := 2) sc_law_closed.nd rfl (.inl rfl) (pe_lst pa_nil))
      (pss_cons (ps_for PassesOwn.never rfl (pi_list (pv 1)) (pg_name (i := 3) sc_law_closed.nd rfl (.inl rfl))
        (pss_one (ps_if (pt_cmpR op_notIn_seq (pv 3) (pv 2) (by rfl))
        (pss_one (ps_expr (pe_bm PySem.F.plainAttrs_list PySem.F.slot_list_append PySem.F.type_list_append mt_append (pv 2) (pa_cons (pv 3) pa_nil))))
        pss_nil)))
      (pss_cons (ps_for PassesOwn.never rfl (pi_range1 (by rfl) L.z_range (pa_cons (pe_callB call_len_seq (by rfl) L.z_len PySem.boot_len (pa_cons (pe_fld (pv 0) rfl) pa_nil)) pa_nil)) (pg_name (i := 4) sc_law_closed.nd rfl (.inl rfl))
        (pss_cons (ps_if (pt_cmpR op_ge (pv 4) (pe_callB call_len_seq (by rfl) L.z_len PySem.boot_len (pa_cons (pv 2) pa_nil)) (nomark _))
        (pss_one ps_break)
        pss_nil)
      (pss_one (ps_for PassesOwn.never rfl (pi_list (pe_call G_children_of (hr.mono (by omega)) (by rfl) L.children_of.g L.children_of.F.kp L.children_of.b .nil pass0 (pa_cons (pv 0) (pa_cons (pe_ix ix_list (pv 2) (pv 4) (fun _ _ => rfl)) pa_nil)))) (pg_name (i := 5) sc_law_closed.nd rfl (.inl rfl))
        (pss_one (ps_if (pt_cmpR op_notIn_seq (pv 5) (pv 2) (by rfl))
        (pss_one (ps_expr (pe_bm PySem.F.plainAttrs_list PySem.F.slot_list_append PySem.F.type_list_append mt_append (pv 2) (pa_cons (pv 5) pa_nil))))
        pss_nil))))))
      (pss_one (ps_ret (pv 2)))))), ?_⟩
    refine ⟨Nat.zero_le _, fun F nF => ?_⟩
    have s1 := same_upd (o := .lst []) nF
    refine ⟨_, rfl, l, rfl, ⟨_, ls s1⟩, for_list (K := K) (a := l) (xs := numV ns) (fun i σ H' => ∃ (y3 y4 y5 : Option V), σ = [some (.ref st), some (.ref l), some (.ref F), y3, y4, y5] ∧ Same H H' ∧ H' F = some (.lst (numV (adds [] (ns.take i))))) ⟨none, none, none, rfl, s1, upd_same⟩ (fun i σ H' _ h => by obtain ⟨_, _, _, _, h, _⟩ := h; exact ls h) ?_ ?_⟩
    · rintro i v σ H1 hv ⟨y3, y4, y5, rfl, k1, hF⟩
      unfold numV at hv
      rw [List.getElem?_map] at hv
      obtain ⟨n, hn, rfl⟩ := Option.map_eq_some_iff.mp hv
      have al : (adds [] (ns.take i)).length ≤ g.length := nd_len (adds_nd (by simp)) fun x hx => lt x (List.mem_of_mem_take ((adds_mem.mp hx).resolve_left (by simp)))
      have e6 : adds [] (ns.take (i + 1)) = if n ∈ adds [] (ns.take i) then adds [] (ns.take i) else adds [] (ns.take i) ++ [n] := by
        rw [List.take_add_one, hn]
        exact adds_snoc _ _ _
      rw [e6]
      refine ⟨_, rfl, _, rfl, F, _, rfl, .inl (SqL.of hF), rfl, numV_flat _, _, rfl, ?_⟩
      rw [inV_num]
      by_cases hm : n ∈ adds [] (ns.take i)
      · rw [decide_eq_true hm, if_pos hm]
        exact iteF ⟨_, _, _, rfl, k1, hF⟩
      · rw [decide_eq_false hm, if_neg hm]
        refine iteT ?_
        refine ⟨_, rfl, .inl ⟨rfl, _, SqL.of hF⟩, _, rfl, F, _, _, rfl, rfl, hF, ?_, ?_⟩
        · rw [numV_len]
          exact Nat.lt_of_le_of_lt (m := 1000) (by omega) (by decide)
        exact ⟨_, _, _, rfl, My.Same.put k1 nF, by rw [upd_same]; exact congrArg (fun l => some (HO.lst l)) (numV_app _ [n])⟩
    · rintro σ H1 ⟨y3, y4, y5, rfl, k1, hF⟩
      rw [numV_len, List.take_length] at hF
      obtain ⟨⟨ds, t, o, lm, Y, g1, g2, g3, _⟩, _, _⟩ := G.same k1
      refine ⟨_, rfl, st, A.Store, ds, _, _, rfl, g1, L.c_Store.cl, L.n_Store_things, st_things _ _ _, t, _, rfl, .inl (SqL.of g2), (((Y.map V.ref).length : Nat) : Int), rfl, by omega, by rw [List.length_map]; omega, for_range (n := (Y.map V.ref).length) (fun i σ H' => ∃ (R : List Nat) (y3 y4 y5 : Option V), σ = [some (.ref st), some (.ref l), some (.ref F), y3, y4, y5] ∧ Same H H' ∧ H' F = some (.lst (numV R)) ∧ Clo g ns R i) ⟨_, _, _, _, rfl, k1, hF, Clo.start g ns⟩ ?_ ?_⟩
      · rintro i σ H2 hi ⟨R, y3, y4, y5, rfl, k2, hF2, C⟩
        rw [List.length_map, g3] at hi
        rw [Int.zero_add]
        have Rl := C.le lt G.lt
        refine ⟨_, rfl, _, rfl, F, _, rfl, .inl (SqL.of hF2), _, _, rfl, rfl, _, rfl, ite2 (fun ha => ?_) fun ha => ?_⟩
        · have ha := of_decide_eq_true ha
          rw [numV_len] at ha
          exact ⟨_, rfl, q _ F R k2 nF (fun n => C.all (by omega)) Rl hF2⟩
        · have ha : ¬ (((i : Nat) : Int) ≥ (((numV R).length : Nat) : Int)) := fun z => ha (decide_eq_true z)
          rw [numV_len] at ha
          obtain ⟨nk, hk0⟩ : ∃ nk, R[i]? = some nk := ⟨_, List.getElem?_eq_getElem (by omega)⟩
          have hnk : nk < g.length := rch_lt lt G.lt (C.rch nk (List.mem_of_getElem? hk0))
          obtain ⟨cs, hcs⟩ : ∃ cs, g[nk]? = some cs := ⟨_, List.getElem?_eq_getElem hnk⟩
          refine ⟨_, rfl, _, rfl, _, rfl, F, _, _, _, rfl, rfl, SqL.of hF2, atI_nat (j := i) (v := .int ((nk : Nat) : Int)) (xs := numV R) (by unfold numV; rw [List.getElem?_map, hk0]; rfl), st, g, nk, cs, rfl, G.same k2, hcs, fun H3 r s3 nr hr3 cl => ?_⟩
          refine ⟨r, rfl, ⟨_, SqL.of hr3⟩, for_list (K := K) (a := r) (xs := numV cs) (fun j σ H' => ∃ (y5 : Option V), σ = [some (.ref st), some (.ref l), some (.ref F), y3, some (.int ((i : Nat) : Int)), y5] ∧ Same H H' ∧ H' r = some (.lst (numV cs)) ∧ H' F = some (.lst (numV (adds R (cs.take j))))) ⟨_, rfl, k2.trans s3, hr3, s3 _ _ hF2⟩ (fun i σ H' _ h => by obtain ⟨_, _, _, h, _⟩ := h; exact SqL.of h) ?_ ?_⟩
          · rintro j v σ H4 hv ⟨y5', rfl, k4, hr4, hF4⟩
            unfold numV at hv
            rw [List.getElem?_map] at hv
            obtain ⟨c', hc, rfl⟩ := Option.map_eq_some_iff.mp hv
            have al : (adds R (cs.take j)).length ≤ g.length := nd_len (adds_nd C.nd) fun x hx => (adds_mem.mp hx).elim (fun z => rch_lt lt G.lt (C.rch x z)) fun z => G.lt cs (List.mem_of_getElem? hcs) x (List.mem_of_mem_take z)
            have rF : r ≠ F := fun z => by rw [z, hF2] at nr; cases nr
            have e6 : adds R (cs.take (j + 1)) = if c' ∈ adds R (cs.take j) then adds R (cs.take j) else adds R (cs.take j) ++ [c'] := by
              rw [List.take_add_one, hc]
              exact adds_snoc _ _ _
            rw [e6]
            refine ⟨_, rfl, _, rfl, F, _, rfl, .inl (SqL.of hF4), rfl, numV_flat _, _, rfl, ?_⟩
            rw [inV_num]
            by_cases hm : c' ∈ adds R (cs.take j)
            · rw [decide_eq_true hm, if_pos hm]
              exact iteF ⟨_, rfl, k4, hr4, hF4⟩
            · rw [decide_eq_false hm, if_neg hm]
              refine iteT ?_
              refine ⟨_, rfl, .inl ⟨rfl, _, SqL.of hF4⟩, _, rfl, F, _, _, rfl, rfl, hF4, ?_, ?_⟩
              · rw [numV_len]
                exact Nat.lt_of_le_of_lt (m := 1000) (by omega) (by decide)
              exact ⟨_, rfl, My.Same.put k4 nF, by rw [upd_ne rF]; exact hr4, by rw [upd_same]; exact congrArg (fun l => some (HO.lst l)) (numV_app _ [c'])⟩
          · rintro σ H4 ⟨y5', rfl, k4, hr4, hF4⟩
            rw [numV_len, List.take_length] at hF4
            exact ⟨_, _, _, _, rfl, k4, hF4, C.step hk0 hcs⟩
      · rintro σ H2 ⟨R, y3, y4, y5, rfl, k2, hF2, C⟩
        rw [List.length_map, g3] at C
        exact ⟨_, rfl, q _ F R k2 nF (fun n => C.all (C.le lt G.lt)) (C.le lt G.lt) hF2⟩
end
end My
namespace My
open PySem L2 XV
open C8 (pss_cut tCut cutS_slice pe_gc)
/-- a dict of ways, each a list of its own, none of them at O -/
def WD (O : Addr) (H : Hp) : List (Key × V) → Wl → Prop
  | [], [] => True
  | q :: kvs, e :: L => (q.1 = .inl ((e.1 : Nat) : Int) ∧ ∃ a, q.2 = .ref a ∧ a ≠ O ∧ H a = some (.lst (numV e.2))) ∧ WD O H kvs L
  | _, _ => False
theorem WD.keep {O : Addr} {H H' : Hp} (s : ∀ a xs, a ≠ O → H a = some (.lst xs) → H' a = some (.lst xs)) : ∀ {kvs : List (Key × V)} {L : Wl}, WD O H kvs L → WD O H' kvs L
  | [], [], _ => trivial
  | _ :: _, _ :: _, ⟨⟨h1, a, h2, h3, h4⟩, r⟩ => ⟨⟨h1, a, h2, h3, s _ _ h3 h4⟩, r.keep s⟩
  | [], _ :: _, h => h.elim
  | _ :: _, [], h => h.elim
theorem WD.len {O : Addr} {H : Hp} : ∀ {kvs : List (Key × V)} {L : Wl}, WD O H kvs L → kvs.length = L.length
  | [], [], _ => rfl
  | _ :: _, _ :: _, ⟨_, r⟩ => congrArg (· + 1) r.len
  | [], _ :: _, h => h.elim
  | _ :: _, [], h => h.elim
theorem WD.app {O : Addr} {H : Hp} {q : Key × V} {e : Nat × List Nat} (hq : q.1 = .inl ((e.1 : Nat) : Int) ∧ ∃ a, q.2 = .ref a ∧ a ≠ O ∧ H a = some (.lst (numV e.2))) : ∀ {kvs : List (Key × V)} {L : Wl}, WD O H kvs L → WD O H (kvs ++ [q]) (L ++ [e])
  | [], [], _ => ⟨hq, trivial⟩
  | _ :: _, _ :: _, ⟨h, r⟩ => ⟨h, r.app hq⟩
  | [], _ :: _, h => h.elim
  | _ :: _, [], h => h.elim
theorem WD.val {O : Addr} {H : Hp} {n : Nat} : ∀ {kvs : List (Key × V)} {L : Wl}, WD O H kvs L → (wayE L n = none ∧ valV kvs (.inl ((n : Nat) : Int)) = none) ∨ ∃ p a, wayE L n = some p ∧ valV kvs (.inl ((n : Nat) : Int)) = some (.ref a) ∧ a ≠ O ∧ H a = some (.lst (numV p))
  | [], [], _ => .inl ⟨rfl, rfl⟩
  | q :: kvs, e :: L, ⟨⟨h1, a, h2, h3, h4⟩, r⟩ => by
    by_cases c : e.1 = n
    · refine .inr ⟨e.2, a, ?_, ?_, h3, h4⟩
      · unfold wayE
        rw [List.find?_cons_of_pos (by simp [c])]
        rfl
      · unfold valV
        rw [List.find?_cons_of_pos (by simp [h1, c]), Option.map_some, h2]
    · have e1 : wayE (e :: L) n = wayE L n := by
        unfold wayE
        rw [List.find?_cons_of_neg (by simpa using c)]
      have e2 : valV (q :: kvs) (.inl ((n : Nat) : Int)) = valV kvs (.inl ((n : Nat) : Int)) := by
        unfold valV
        rw [List.find?_cons_of_neg]
        rw [h1]
        simp
        omega
      rw [e1, e2]
      exact r.val
  | [], _ :: _, h => h.elim
  | _ :: _, [], h => h.elim
theorem WD.some {O : Addr} {H : Hp} {n : Nat} {kvs : List (Key × V)} {L : Wl} (h : WD O H kvs L) : (valV kvs (.inl ((n : Nat) : Int))).isSome = decide (n ∈ kys L) := by
  rcases h.val (n := n) with ⟨e1, e2⟩ | ⟨p, a, e1, e2, _⟩
  · rw [e2, Bool.eq_iff_iff, decide_eq_true_eq]
    constructor
    · intro z; cases z
    · intro z
      obtain ⟨i, p, hi⟩ := key_at z
      unfold wayE at e1
      rw [Option.map_eq_none_iff, List.find?_eq_none] at e1
      exact absurd (decide_eq_true (rfl : (n, p).1 = n)) (e1 _ (List.mem_of_getElem? hi))
  · rw [e2, Bool.eq_iff_iff, decide_eq_true_eq]
    refine ⟨fun _ => ?_, fun _ => rfl⟩
    unfold wayE at e1
    obtain ⟨x, hx, _⟩ := Option.map_eq_some_iff.mp e1
    have h1 := List.mem_of_find?_eq_some hx
    have h2 := List.find?_some hx
    simp at h2
    exact List.mem_map.mpr ⟨x, h1, h2⟩
theorem putK_new {kvs : List (Key × V)} {k : Key} {v : V} (h : (valV kvs k).isSome = false) : putK kvs k v = kvs ++ [(k, v)] := by
  unfold putK
  rw [if_neg]
  unfold valV at h
  rw [Option.isSome_map] at h
  intro z
  rw [← Bool.not_eq_true, List.find?_isSome] at h
  obtain ⟨x, hx, e⟩ := List.any_eq_true.mp z
  exact h ⟨x, hx, e⟩
section
variable {P : Program} {w : World} {K : PySem.W.Frag} {mg : Str → Option Value} {base : Heap} {A : Ads}
def spLens (K : PySem.W.Frag) (A : Ads) : Sp := fun vs H Q _ => ∃ s l g S, vs = [.ref s, .ref l] ∧ Gr A H s g ∧ SqL K H l (numV S) ∧ S.length ≤ 100 ∧ (∀ n ∈ S, n < g.length) ∧
  ∀ (H' : Hp) (D O : Addr) (kvs : List (Key × V)), Same H H' → H' D = some (.dK kvs) → WD O H' kvs (bIt g (binit S) g.length) → Q (.ref D) H'
theorem ok_law_lengths (L : Lib P K mg A) : FnOk P w K mg base CX0 3 L.law_lengths.f L.law_lengths.fd ["store", "scopes"] (spLens K A) := by
  have G_children_of : FnOk P w K mg base CX0 2 L.children_of.f L.children_of.fd ["store", "number"] (spCh A) := ok_children_of L
  refine L.law_lengths.F.ok sc_law_lengths (fun vs H Q E h => ?_) (fun cdv A' outer s H vs Q E hr h => ?_)
  · obtain ⟨s, l, g, S, rfl, _⟩ := h
    rfl
  · obtain ⟨st, l, g, S, rfl, G, hl, nl, lt, q⟩ := h
    have gl := G.le
    have hu : (A'.deeper (PyProof.Rows.envOfC ("_law_lengths" : Str) (defScope s_law_lengths) s.heap.objs.size L.law_lengths.f cdv)).units + 1 < cLine := by
      have := units64 hr
      omega
    have ls : ∀ {H' : Hp}, Same H H' → SqL K H' l (numV S) := fun k => by
      rcases hl with (h | ⟨ob, h⟩) | h
      · exact .inl (.inl (k _ _ h))
      · exact .inl (.inr ⟨ob, k _ _ h⟩)
      · exact .inr h
    refine ⟨_, (pss_cons (ps_set (i := 2) sc_law_lengths.nd rfl (.inl rfl) pe_dnewK)
      (pss_cons (ps_set (i := 3) sc_law_lengths.nd rfl (.inl rfl) (pe_lst pa_nil))
      (pss_cons (ps_for PassesOwn.never rfl (pi_list (pv 1)) (pg_name (i := 4) sc_law_lengths.nd rfl (.inl rfl))
        (pss_one (ps_if (pt_cmp (pc_dnotin hu (pv 4) (pv 2)))
        (pss_cons (ps_dput hu (pv 2) (pv 4) (pe_lst (pa_cons (pv 4) pa_nil)) rfl)
      (pss_one (ps_expr (pe_bm PySem.F.plainAttrs_list PySem.F.slot_list_append PySem.F.type_list_append mt_append (pv 3) (pa_cons (pv 4) pa_nil)))))
        pss_nil)))
      (pss_cons (ps_for PassesOwn.never rfl (pi_range1 (by rfl) L.z_range (pa_cons (pe_callB call_len_seq (by rfl) L.z_len PySem.boot_len (pa_cons (pe_fld (pv 0) rfl) pa_nil)) pa_nil)) (pg_name (i := 5) sc_law_lengths.nd rfl (.inl rfl))
        (pss_cons (ps_if (pt_cmpR op_ge (pv 5) (pe_callB call_len_seq (by rfl) L.z_len PySem.boot_len (pa_cons (pv 3) pa_nil)) (nomark _))
        (pss_one ps_break)
        pss_nil)
      (pss_one (ps_for PassesOwn.never rfl (pi_list (pe_call G_children_of (hr.mono (by omega)) (by rfl) L.children_of.g L.children_of.F.kp L.children_of.b .nil pass0 (pa_cons (pv 0) (pa_cons (pe_ix ix_list (pv 3) (pv 5) (fun _ _ => rfl)) pa_nil)))) (pg_name (i := 6) sc_law_lengths.nd rfl (.inl rfl))
        (pss_one (ps_if (pt_cmp (pc_dnotin hu (pv 6) (pv 2)))
        (pss_cons (ps_dput hu (pv 2) (pv 6) (pe_op op_cat (pe_dget hu (pv 2) (pe_ix ix_list (pv 3) (pv 5) (fun _ _ => rfl)) (fun _ _ => rfl)) (pe_lst (pa_cons (pv 6) pa_nil))) rfl)
      (pss_one (ps_expr (pe_bm PySem.F.plainAttrs_list PySem.F.slot_list_append PySem.F.type_list_append mt_append (pv 3) (pa_cons (pv 6) pa_nil)))))
        pss_nil))))))
      (pss_one (ps_ret (pv 2))))))), ?_⟩
    refine fun D nD => ?_
    have s1 := same_upd (o := .dK []) nD
    refine ⟨Nat.zero_le _, fun O nO => ?_⟩
    have s2 := s1.trans (same_upd (o := .lst []) nO)
    have nO0 : H O = none := s1.free nO
    have DO : D ≠ O := ne_of_none upd_same nO
    have hD2 : upd (upd H D (.dK [])) O (.lst []) D = some (.dK []) := by rw [upd_ne DO]; exact upd_same
    have hO2 : upd (upd H D (.dK [])) O (.lst []) O = some (.lst []) := upd_same
    generalize upd (upd H D (.dK [])) O (.lst []) = H2 at s2 hD2 hO2 ⊢
    refine ⟨_, rfl, l, rfl, ⟨_, ls s2⟩, for_list (K := K) (a := l) (xs := numV S) (fun i σ H' => ∃ (y4 y5 y6 : Option V) (kvs : List (Key × V)), σ = [some (.ref st), some (.ref l), some (.ref D), some (.ref O), y4, y5, y6] ∧ Same H H' ∧ H' D = some (.dK kvs) ∧ WD O H' kvs (binit (S.take i)) ∧ H' O = some (.lst (numV (kys (binit (S.take i)))))) ⟨none, none, none, [], rfl, s2, hD2, trivial, hO2⟩ (fun i σ H' _ h => by obtain ⟨_, _, _, _, _, h, _⟩ := h; exact ls h) ?_ ?_⟩
    · rintro i v σ H3 hv ⟨y4, y5, y6, kvs, rfl, k3, hD3, w3, hO3⟩
      unfold numV at hv
      rw [List.getElem?_map] at hv
      obtain ⟨n, hn, rfl⟩ := Option.map_eq_some_iff.mp hv
      have bl : (binit (S.take i)).length ≤ g.length := binit_le fun y hy => lt y (List.mem_of_mem_take hy)
      have wl := w3.len
      have e6 : binit (S.take (i + 1)) = if n ∈ kys (binit (S.take i)) then binit (S.take i) else binit (S.take i) ++ [(n, [n])] := by
        rw [List.take_add_one, hn]
        exact binit_snoc _ _
      rw [e6]
      have ws := w3.some (n := n)
      refine ⟨_, rfl, _, rfl, D, _, rfl, DGet.k (k := Sum.inl ((n : Nat) : Int)) hD3, _, rfl, ?_⟩
      rw [ws]
      by_cases hm : n ∈ kys (binit (S.take i))
      · rw [decide_eq_true hm, if_pos hm]
        exact iteF ⟨_, _, _, kvs, rfl, k3, hD3, w3, hO3⟩
      · rw [decide_eq_false hm] at ws
        rw [decide_eq_false hm, if_neg hm]
        refine iteT ?_
        refine ⟨_, rfl, (by show 1 ≤ sizeLine; decide), fun a na => ?_⟩
        have sa := same_upd (o := .lst [.int ((n : Nat) : Int)]) na
        have aO : a ≠ O := (ne_of_none hO3 na).symm
        have aD : a ≠ D := (ne_of_none hD3 na).symm
        have hD4 := sa _ _ hD3
        have hO4 := sa _ _ hO3
        have ha4 : upd H3 a (.lst [.int ((n : Nat) : Int)]) a = some (.lst (numV [n])) := upd_same
        have w4 := w3.keep (H' := upd H3 a (.lst [.int ((n : Nat) : Int)])) fun b xs _ e => sa _ _ e
        have k4 := k3.trans sa
        generalize upd H3 a _ = H4 at hD4 hO4 ha4 w4 k4 ⊢
        refine ⟨_, rfl, _, rfl, D, _, rfl, DPut.k (k := Sum.inl ((n : Nat) : Int)) hD4 ?_, ?_⟩
        · rw [wl]
          exact Nat.lt_of_le_of_lt (m := 1000) (by omega) (by decide)
        rw [putK_new ws]
        have hO5 : upd H4 D (.dK (kvs ++ [(.inl ((n : Nat) : Int), .ref a)])) O = some (.lst (numV (kys (binit (S.take i))))) := by rw [upd_ne DO.symm]; exact hO4
        refine ⟨_, rfl, .inl ⟨rfl, _, SqL.of hO5⟩, _, rfl, O, _, _, rfl, rfl, hO5, ?_, ?_⟩
        · rw [numV_len]
          unfold kys
          rw [List.length_map]
          exact Nat.lt_of_le_of_lt (m := 1000) (by omega) (by decide)
        have kk : ∀ b xs, b ≠ O → H4 b = some (.lst xs) → upd (upd H4 D (.dK (kvs ++ [(.inl ((n : Nat) : Int), .ref a)]))) O (.lst (numV (kys (binit (S.take i))) ++ [.int ((n : Nat) : Int)])) b = some (.lst xs) := fun b xs bO e => by
          rw [upd_ne bO, upd_ne (fun z => by rw [z, hD4] at e; cases e)]
          exact e
        refine ⟨_, _, _, _, rfl, My.Same.put (My.Same.put k4 nD) nO0, by rw [upd_ne DO]; exact upd_same, (w4.keep kk).app (e := (n, [n])) ⟨rfl, a, rfl, aO, kk a _ aO ha4⟩, ?_⟩
        rw [upd_same]
        unfold kys
        rw [List.map_append]
        exact congrArg (fun l => Option.some (HO.lst l)) (numV_app _ [n])
    · rintro σ H3 ⟨y4, y5, y6, kvs, rfl, k3, hD3, w3, hO3⟩
      rw [numV_len, List.take_length] at w3 hO3
      obtain ⟨B0, B1⟩ := binit_ok S
      have lt0 : ∀ x ∈ kys (binit S), x < g.length := fun x hx => lt x ((B1 x).mp hx)
      obtain ⟨L0, eL0⟩ : ∃ L0, L0 = binit S := ⟨_, rfl⟩
      rw [← eL0] at w3 hO3 B0 lt0 q
      clear B1
      obtain ⟨⟨ds, t, o, lm, Y, g1, g2, g3, _⟩, _, _⟩ := G.same k3
      refine ⟨_, rfl, st, A.Store, ds, _, _, rfl, g1, L.c_Store.cl, L.n_Store_things, st_things _ _ _, t, _, rfl, .inl (SqL.of g2), (((Y.map V.ref).length : Nat) : Int), rfl, by omega, by rw [List.length_map]; omega, for_range (n := (Y.map V.ref).length) (fun i σ H' => ∃ (y4 y5 y6 : Option V) (kvs : List (Key × V)), σ = [some (.ref st), some (.ref l), some (.ref D), some (.ref O), y4, y5, y6] ∧ Same H H' ∧ H' D = some (.dK kvs) ∧ WD O H' kvs (bIt g L0 i) ∧ H' O = some (.lst (numV (kys (bIt g L0 i))))) ⟨_, _, _, kvs, rfl, k3, hD3, w3, hO3⟩ ?_ ?_⟩
      · rintro k σ H4 hi ⟨y4, y5, y6, kvs, rfl, k4, hD4, w4, hO4⟩
        rw [List.length_map, g3] at hi
        rw [Int.zero_add]
        have Yk := bIt_ok (g := g) B0 k
        have lenk := bIt_len (g := g) B0 lt0 G.lt k
        have kyl : (kys (bIt g L0 k)).length = (bIt g L0 k).length := List.length_map ..
        refine ⟨_, rfl, _, rfl, O, _, rfl, .inl (SqL.of hO4), _, _, rfl, rfl, _, rfl, ite2 (fun ha => ?_) fun ha => ?_⟩
        · have ha := of_decide_eq_true ha
          rw [numV_len, kyl] at ha
          rw [← bIt_none (g := g) (L := L0) (k := k) (by omega) g.length (by omega)] at w4
          exact ⟨_, rfl, q _ D O kvs k4 hD4 w4⟩
        · have ha : ¬ (((k : Nat) : Int) ≥ (((numV (kys (bIt g L0 k))).length : Nat) : Int)) := fun z => ha (decide_eq_true z)
          rw [numV_len, kyl] at ha
          obtain ⟨nk, pk, hk0⟩ : ∃ (nk : Nat) (pk : List Nat), (bIt g L0 k)[k]? = some (nk, pk) := ⟨(bIt g L0 k)[k].1, (bIt g L0 k)[k].2, List.getElem?_eq_getElem (by omega)⟩
          have hnk : nk < g.length := bIt_lt B0 lt0 G.lt k nk (List.mem_map.mpr ⟨_, List.mem_of_getElem? hk0, rfl⟩)
          obtain ⟨cs, hcs⟩ : ∃ cs, g[nk]? = some cs := ⟨_, List.getElem?_eq_getElem hnk⟩
          have eb := bIt_some hk0
          rw [List.getD_eq_getElem?_getD, hcs] at eb
          have eb : bIt g L0 (k + 1) = bstep (bIt g L0 k) pk cs := eb
          have pkl := way_len Yk k nk pk hk0
          refine ⟨_, rfl, _, rfl, _, rfl, O, _, _, _, rfl, rfl, SqL.of hO4, atI_nat (j := k) (v := .int ((nk : Nat) : Int)) (xs := numV (kys (bIt g L0 k))) (by unfold numV kys; rw [List.getElem?_map, List.getElem?_map, hk0]; rfl), st, g, nk, cs, rfl, G.same k4, hcs, fun H5 r s5 nr hr5 cl => ?_⟩
          have rD : r ≠ D := fun z => by rw [z, hD4] at nr; cases nr
          have rO : r ≠ O := fun z => by rw [z, hO4] at nr; cases nr
          refine ⟨r, rfl, ⟨_, SqL.of hr5⟩, for_list (K := K) (a := r) (xs := numV cs) (fun j σ H' => ∃ (y6 : Option V) (kvs : List (Key × V)), σ = [some (.ref st), some (.ref l), some (.ref D), some (.ref O), y4, some (.int ((k : Nat) : Int)), y6] ∧ Same H H' ∧ H' r = some (.lst (numV cs)) ∧ H' D = some (.dK kvs) ∧ WD O H' kvs (bstep (bIt g L0 k) pk (cs.take j)) ∧ H' O = some (.lst (numV (kys (bstep (bIt g L0 k) pk (cs.take j)))))) ⟨_, kvs, rfl, k4.trans s5, hr5, s5 _ _ hD4, w4.keep fun b xs _ e => s5 _ _ e, s5 _ _ hO4⟩ (fun i σ H' _ h => by obtain ⟨_, _, _, _, h, _⟩ := h; exact SqL.of h) ?_ ?_⟩
          · rintro j v σ H6 hv ⟨y6', kvs, rfl, k6, hr6, hD6, w6, hO6⟩
            unfold numV at hv
            rw [List.getElem?_map] at hv
            obtain ⟨c', hc, rfl⟩ := Option.map_eq_some_iff.mp hv
            obtain ⟨YM, ⟨rM, eM⟩, kM⟩ := bstep_ok hk0 Yk (cs.take j)
            have lM : (bstep (bIt g L0 k) pk (cs.take j)).length ≤ g.length := by
              have := nd_len (n := g.length) YM.nd fun y hy => by
                rcases (kM y).mp hy with z | z
                · exact bIt_lt B0 lt0 G.lt k y z
                · exact G.lt cs (List.mem_of_getElem? hcs) y (List.mem_of_mem_take z)
              unfold kys at this
              rwa [List.length_map] at this
            have hkM : (bstep (bIt g L0 k) pk (cs.take j))[k]? = some (nk, pk) := by rw [eM, List.getElem?_append_left (List.getElem?_eq_some_iff.mp hk0).1]; exact hk0
            have e6 : bstep (bIt g L0 k) pk (cs.take (j + 1)) = if c' ∈ kys (bstep (bIt g L0 k) pk (cs.take j)) then bstep (bIt g L0 k) pk (cs.take j) else bstep (bIt g L0 k) pk (cs.take j) ++ [(c', pk ++ [c'])] := by
              rw [List.take_add_one, hc]
              exact bstep_snoc _ _ _ _
            generalize bstep (bIt g L0 k) pk (cs.take j) = Mk at hD6 w6 hO6 YM lM hkM e6 ⊢
            have wl := w6.len
            have ws := w6.some (n := c')
            rw [e6]
            refine ⟨_, rfl, _, rfl, D, _, rfl, DGet.k (k := Sum.inl ((c' : Nat) : Int)) hD6, _, rfl, ?_⟩
            rw [ws]
            by_cases hm : c' ∈ kys Mk
            · rw [decide_eq_true hm, if_pos hm]
              exact iteF ⟨_, kvs, rfl, k6, hr6, hD6, w6, hO6⟩
            · rw [decide_eq_false hm] at ws
              rw [decide_eq_false hm, if_neg hm]
              refine iteT ?_
              obtain ⟨ap, hval, apO, hap⟩ : ∃ ap, valV kvs (.inl ((nk : Nat) : Int)) = some (.ref ap) ∧ ap ≠ O ∧ H6 ap = some (.lst (numV pk)) := by
                rcases w6.val (n := nk) with ⟨e1, _⟩ | ⟨p', a, e1, e2, e3, e4⟩
                · rw [wayE_at YM.nd hkM] at e1; cases e1
                · rw [wayE_at YM.nd hkM] at e1
                  cases e1
                  exact ⟨a, e2, e3, e4⟩
              have dg : DGet H6 D (.int ((nk : Nat) : Int)) (some (.ref ap)) := by
                have := DGet.k (k := Sum.inl ((nk : Nat) : Int)) hD6
                rw [hval] at this
                exact this
              refine ⟨_, rfl, _, rfl, _, rfl, O, _, _, _, rfl, rfl, SqL.of hO6, atI_nat (j := k) (v := .int ((nk : Nat) : Int)) (xs := numV (kys Mk)) (by unfold numV kys; rw [List.getElem?_map, List.getElem?_map, hkM]; rfl), D, _, rfl, dg, ?_⟩
              refine ⟨_, rfl, (by show 1 ≤ sizeLine; decide), fun a1 na1 => ?_⟩
              have s7 := same_upd (o := .lst [.int ((c' : Nat) : Int)]) na1
              refine ⟨ap, a1, _, _, rfl, rfl, s7 _ _ hap, upd_same, ?_, fun a na => ?_⟩
              · rw [numV_len]
                exact Nat.le_trans (m := 1000) (by show _ + 1 ≤ _; omega) (by decide)
              have sa := s7.trans (same_upd (o := .lst (numV pk ++ [.int ((c' : Nat) : Int)])) na)
              have na0 : H6 a = none := s7.free na
              have aO : a ≠ O := (ne_of_none hO6 na0).symm
              have hD7 := sa _ _ hD6
              have hO7 := sa _ _ hO6
              have hr7 := sa _ _ hr6
              have ha7 : upd (upd H6 a1 (.lst [.int ((c' : Nat) : Int)])) a (.lst (numV pk ++ [.int ((c' : Nat) : Int)])) a = some (.lst (numV (pk ++ [c']))) := by
                rw [upd_same]
                exact congrArg (fun l => Option.some (HO.lst l)) (numV_app _ [c'])
              have w7 := w6.keep (H' := upd (upd H6 a1 (.lst [.int ((c' : Nat) : Int)])) a (.lst (numV pk ++ [.int ((c' : Nat) : Int)]))) fun b xs _ e => sa _ _ e
              have k7 := k6.trans sa
              generalize upd (upd H6 a1 _) a _ = H7 at hD7 hO7 hr7 ha7 w7 k7 ⊢
              refine ⟨_, rfl, _, rfl, D, _, rfl, DPut.k (k := Sum.inl ((c' : Nat) : Int)) hD7 ?_, ?_⟩
              · rw [wl]
                exact Nat.lt_of_le_of_lt (m := 1000) (by omega) (by decide)
              rw [putK_new ws]
              have hO8 : upd H7 D (.dK (kvs ++ [(.inl ((c' : Nat) : Int), .ref a)])) O = some (.lst (numV (kys Mk))) := by rw [upd_ne DO.symm]; exact hO7
              refine ⟨_, rfl, .inl ⟨rfl, _, SqL.of hO8⟩, _, rfl, O, _, _, rfl, rfl, hO8, ?_, ?_⟩
              · rw [numV_len]
                unfold kys
                rw [List.length_map]
                exact Nat.lt_of_le_of_lt (m := 1000) (by omega) (by decide)
              have kk : ∀ b xs, b ≠ O → H7 b = some (.lst xs) → upd (upd H7 D (.dK (kvs ++ [(.inl ((c' : Nat) : Int), .ref a)]))) O (.lst (numV (kys Mk) ++ [.int ((c' : Nat) : Int)])) b = some (.lst xs) := fun b xs bO e => by
                rw [upd_ne bO, upd_ne (fun z => by rw [z, hD7] at e; cases e)]
                exact e
              refine ⟨_, _, rfl, My.Same.put (My.Same.put k7 nD) nO0, kk r _ rO hr7, by rw [upd_ne DO]; exact upd_same, (w7.keep kk).app (e := (c', pk ++ [c'])) ⟨rfl, a, rfl, aO, kk a _ aO ha7⟩, ?_⟩
              rw [upd_same]
              unfold kys
              rw [List.map_append]
              exact congrArg (fun l => Option.some (HO.lst l)) (numV_app _ [c'])
          · rintro σ H6 ⟨y6', kvs, rfl, k6, hr6, hD6, w6, hO6⟩
            rw [numV_len, List.take_length, ← eb] at w6 hO6
            exact ⟨_, _, _, kvs, rfl, k6, hD6, w6, hO6⟩
      · rintro σ H4 ⟨y4, y5, y6, kvs, rfl, k4, hD4, w4, hO4⟩
        rw [List.length_map, g3] at w4
        exact ⟨_, rfl, q _ D O kvs k4 hD4 w4⟩
end
end My
namespace My
open PySem L2 XV
open C8 (pss_cut tCut cutS_slice pe_gc)
/-- the heap but for the lists that are changed -/
def res (M : List Addr) (H : Hp) : Hp := fun b => if b ∈ M then none else H b
theorem res_in {M : List Addr} {H : Hp} {b : Addr} (h : b ∉ M) : res M H b = H b := if_neg h
theorem res_some {M : List Addr} {H : Hp} {b : Addr} {u : HO} (h : res M H b = some u) : H b = some u ∧ b ∉ M := by
  unfold res at h
  by_cases c : b ∈ M
  · rw [if_pos c] at h; cases h
  · rw [if_neg c] at h; exact ⟨h, c⟩
theorem res_sub (M : List Addr) (H : Hp) : Same (res M H) H := fun _ _ e => (res_some e).1
theorem res_keep {M : List Addr} {H H' : Hp} {p : Addr} (hp : p ∈ M) (k : Keep p H H') : Same (res M H) (res M H') := fun b u e => by
  have := res_some e
  rw [res_in this.2]
  exact k _ _ this.1 fun z => this.2 (z ▸ hp)
theorem res_new {M : List Addr} {H : Hp} {b : Addr} {u : HO} (hM : ∀ c ∈ M, ∃ v, H c = some v) (h : H b = none) {H' : Hp} (e : H' b = some u) : res M H' b = some u := by
  rw [res_in]
  · exact e
  · intro z
    obtain ⟨v, hv⟩ := hM b z
    rw [hv] at h; cases h
section
variable {P : Program} {w : World} {K : PySem.W.Frag} {mg : Str → Option Value} {base : Heap} {A : Ads}
theorem sql_apart {H : Hp} {a t : Addr} {us : List V} (n : H t = none) (h : SqL K H a us) : (∀ H, SqL K H a us) ∨ a ≠ t := by
  rcases h with (h | ⟨ob, h⟩) | h
  · exact .inr fun z => by rw [z, n] at h; cases h
  · exact .inr fun z => by rw [z, n] at h; cases h
  · exact .inl fun _ => .inr h
theorem res_ins {M : List Addr} {H : Hp} {b : Addr} {u : HO} (hM : ∀ c ∈ M, ∃ xs, H c = some (.lst xs)) (h : H b = some u) (hu : ∀ xs, u ≠ .lst xs) : res M H b = some u := by
  rw [res_in]
  · exact h
  · intro z
    obtain ⟨xs, hv⟩ := hM b z
    rw [hv] at h
    exact hu xs (Option.some.inj h).symm
theorem StL.ofK {H7 H : Hp} {a p : Addr} {ns : List Int} {x k : Int} (st7 : StL K H7 a p ns) (kk : Keep p H7 H) (hp : H p = some (.lst [.int x, .int k, .ref a])) (h0 : 0 ≤ k) : StL K H a p ns := by
  obtain ⟨x7, k7, h7, _, hs⟩ := st7
  exact ⟨x, k, hp, h0, sql_keep kk h7 hs⟩
/-- the machine at m over the store at st, while it is made: its draws at p, the things at t, the frames at f -/
structure Wm (K : PySem.W.Frag) (A : Ads) (H : Hp) (a p : Addr) (ns : List Int) (m st t f : Addr) (g : List (List Nat)) : Prop where
  dr : StL K H a p ns
  pt : p ≠ t
  pf : p ≠ f
  tf : t ≠ f
  at_ : (∀ H, SqL K H a (ns.map V.int)) ∨ a ≠ t
  af : (∀ H, SqL K H a (ns.map V.int)) ∨ a ≠ f
  mc : ∃ dm c b pl, res [p, t, f] H m = some (.ins A.Machine dm (mF c b st f pl))
  so : ∃ ds o lm, res [p, t, f] H st = some (.ins A.Store ds (stF t o lm))
  th : ∃ X : List Addr, H t = some (.lst (X.map V.ref)) ∧ X.length = g.length ∧ ∀ (i : Nat) x cs, X[i]? = some x → g[i]? = some cs → ∃ os, ThC A (res [p, t, f] H) x os ∧ nums os = cs
  ff : ∃ Y : List V, H f = some (.lst Y)
/-- its frames -/
structure Fm (A : Ads) (H : Hp) (p t f : Addr) (fs : List F3) : Prop where
  fr : ∃ Y : List Addr, H f = some (.lst (Y.map V.ref)) ∧ Y.length = fs.length ∧ ∀ (i : Nat) x fr, Y[i]? = some x → fs[i]? = some fr → FrC A (res [p, t, f] H) x fr
theorem Fm.kp {H H' : Hp} {p t f : Addr} {fs : List F3} (h : Fm A H p t f fs) (pf : p ≠ f) (k : Keep p H H') : Fm A H' p t f fs := by
  obtain ⟨Y, hf, hY, hy⟩ := h
  exact ⟨Y, k _ _ hf pf.symm, hY, fun i x fr e1 e2 => (hy i x fr e1 e2).same (res_keep (by simp) k)⟩
theorem Wm.dom {H : Hp} {a p m st t f : Addr} {ns : List Int} {g : List (List Nat)} (h : Wm K A H a p ns m st t f g) : ∀ c ∈ [p, t, f], ∃ v, H c = some v := by
  obtain ⟨x, k, hp, _⟩ := h.dr
  obtain ⟨X, ht, _⟩ := h.th
  obtain ⟨Y, hf⟩ := h.ff
  intro c hc
  simp only [List.mem_cons, List.not_mem_nil, or_false] at hc
  rcases hc with rfl | rfl | rfl
  · exact ⟨_, hp⟩
  · exact ⟨_, ht⟩
  · exact ⟨_, hf⟩
theorem Wm.doml {H : Hp} {a p m st t f : Addr} {ns : List Int} {g : List (List Nat)} (h : Wm K A H a p ns m st t f g) : ∀ c ∈ [p, t, f], ∃ xs, H c = some (.lst xs) := by
  obtain ⟨x, k, hp, _⟩ := h.dr
  obtain ⟨X, ht, _⟩ := h.th
  obtain ⟨Y, hf⟩ := h.ff
  intro c hc
  simp only [List.mem_cons, List.not_mem_nil, or_false] at hc
  rcases hc with rfl | rfl | rfl
  · exact ⟨_, hp⟩
  · exact ⟨_, ht⟩
  · exact ⟨_, hf⟩
theorem Wm.refs {H H' : Hp} {a p m st t f : Addr} {ns : List Int} {g : List (List Nat)} (h : Wm K A H' a p ns m st t f g) (s : ∀ a dx fs, H a = some (.ins A.Ref dx fs) → H' a = some (.ins A.Ref dx fs)) {us : List V} {os : List (Option Nat)} (hu : Vls A H us os) : Vls A (res [p, t, f] H') us os :=
  hu.keep fun b dx fs e => res_ins h.doml (s _ _ _ e) nofun
/-- what is not changed but by draws -/
theorem Wm.kp {H H' : Hp} {a p m st t f : Addr} {ns : List Int} {g : List (List Nat)} (h : Wm K A H a p ns m st t f g) (k : Keep p H H') (dr : StL K H' a p ns) : Wm K A H' a p ns m st t f g := by
  obtain ⟨_, pt, pf, tf, at_, af, ⟨dm, c, b, pl, mc⟩, ⟨ds, o, lm, so⟩, ⟨X, ht, hX, hx⟩, ⟨Y, hf⟩⟩ := h
  have s := res_keep (M := [p, t, f]) (by simp) k
  exact ⟨dr, pt, pf, tf, at_, af, ⟨dm, c, b, pl, s _ _ mc⟩, ⟨ds, o, lm, s _ _ so⟩, ⟨X, k _ _ ht pt.symm, hX, fun i x cs e1 e2 => let ⟨os, h5, h6⟩ := hx i x cs e1 e2; ⟨os, h5.same s, h6⟩⟩, ⟨Y, k _ _ hf pf.symm⟩⟩
theorem Wm.same {H H' : Hp} {a p m st t f : Addr} {ns : List Int} {g : List (List Nat)} (h : Wm K A H a p ns m st t f g) (s : Same H H') : Wm K A H' a p ns m st t f g := h.kp (My.Same.keep s) (h.dr.same s)
theorem Wm.gr {H : Hp} {a p m st t f : Addr} {ns : List Int} {g : List (List Nat)} (h : Wm K A H a p ns m st t f g) (lt : ∀ cs ∈ g, ∀ c ∈ cs, c < g.length) (le : g.length ≤ 100) : Gr A H st g := by
  obtain ⟨ds, o, lm, so⟩ := h.so
  obtain ⟨X, ht, hX, hx⟩ := h.th
  exact ⟨⟨ds, t, o, lm, X, res_sub _ _ _ _ so, ht, hX, fun i x cs e1 e2 => let ⟨os, h5, h6⟩ := hx i x cs e1 e2; ⟨os, h5.same (res_sub _ _), h6⟩⟩, lt, le⟩
theorem Wm.mch {H : Hp} {a p m st t f : Addr} {ns : List Int} {g : List (List Nat)} {fs : List F3} (h : Wm K A H a p ns m st t f g) (F : Fm A H p t f fs) (le : fs.length ≤ 3) : Mch A H m st fs := by
  obtain ⟨dm, c, b, pl, mc⟩ := h.mc
  obtain ⟨Y, hf, hY, hy⟩ := F
  exact ⟨⟨dm, c, b, f, pl, Y, res_sub _ _ _ _ mc, hf, hY, fun i x fr e1 e2 => (hy i x fr e1 e2).same (res_sub _ _)⟩, le⟩
theorem sql_upd {H : Hp} {a t : Addr} {o : HO} {us : List V} (n : (∀ H, SqL K H a us) ∨ a ≠ t) (h : SqL K H a us) : SqL K (upd H t o) a us := by
  rcases n with n | n
  · exact n _
  rcases h with (h | ⟨ob, h⟩) | h
  · exact .inl (.inl (by rw [upd_ne n]; exact h))
  · exact .inl (.inr ⟨ob, by rw [upd_ne n]; exact h⟩)
  · exact .inr h
/-- one more thing -/
theorem Wm.push {H : Hp} {a p m st t f x : Addr} {ns : List Int} {g : List (List Nat)} {X : List Addr} {os : List (Option Nat)} (h : Wm K A H a p ns m st t f g) (hX : H t = some (.lst (X.map V.ref))) (hx : ThC A (res [p, t, f] H) x os) : Wm K A (upd H t (.lst ((X ++ [x]).map V.ref))) a p ns m st t f (g ++ [nums os]) := by
  have hnp : ∀ {b : Addr} {u : HO}, b ≠ t → H b = some u → upd H t (.lst ((X ++ [x]).map V.ref)) b = some u := fun n e => by rw [upd_ne n]; exact e
  obtain ⟨⟨z, k, hp, h0, hs⟩, pt, pf, tf, at_, af, mc, so, ⟨X', ht, hX', hx'⟩, ⟨Y, hf⟩⟩ := h
  have e : res [p, t, f] (upd H t (.lst ((X ++ [x]).map V.ref))) = res [p, t, f] H := by
    funext b
    unfold res
    by_cases c : b ∈ [p, t, f]
    · rw [if_pos c, if_pos c]
    · rw [if_neg c, if_neg c, upd_ne fun q => c (by rw [q]; simp)]
  have eX : X' = X := by
    rw [hX] at ht
    injection ht with ht
    injection ht with ht
    exact ((List.map_inj_right fun a b h => by injection h).mp ht).symm
  subst eX
  refine ⟨⟨z, k, hnp pt hp, h0, sql_upd at_ hs⟩, pt, pf, tf, at_, af, by rw [e]; exact mc, by rw [e]; exact so, ⟨X' ++ [x], upd_same, by simp [hX'], fun i y cs e1 e2 => ?_⟩, ⟨Y, hnp tf.symm hf⟩⟩
  · rw [e]
    by_cases hi : i < X'.length
    · rw [List.getElem?_append_left hi] at e1
      rw [List.getElem?_append_left (by omega)] at e2
      exact hx' i y cs e1 e2
    · have : i = X'.length := by
        have := (List.getElem?_eq_some_iff.mp e1).1
        rw [List.length_append, List.length_singleton] at this
        omega
      subst this
      rw [List.getElem?_append_right (Nat.le_refl _), Nat.sub_self] at e1
      rw [hX', List.getElem?_append_right (Nat.le_refl _), Nat.sub_self] at e2
      cases e1
      cases e2
      exact ⟨os, hx, rfl⟩
end
end My
namespace My
open PySem L2 XV
open C8 (pss_cut tCut cutS_slice pe_gc)
section
variable {P : Program} {w : World} {K : PySem.W.Frag} {mg : Str → Option Value} {base : Heap} {A : Ads}
theorem Vl.kp {H H' : Hp} {a p : Addr} {ns : List Int} (st : StL K H a p ns) (k : Keep p H H') {v : V} {o : Option Nat} (h : Vl A H v o) : Vl A H' v o := h.keep fun b dx fs e => k _ _ e fun z => by
  obtain ⟨x, i, hp, _⟩ := st
  rw [z, hp] at e; cases e
theorem Vls.kp {H H' : Hp} {a p : Addr} {ns : List Int} (st : StL K H a p ns) (k : Keep p H H') {vs : List V} {os : List (Option Nat)} (h : Vls A H vs os) : Vls A H' vs os := h.keep fun b dx fs e => k _ _ e fun z => by
  obtain ⟨x, i, hp, _⟩ := st
  rw [z, hp] at e; cases e
theorem st_make (t o lm : Addr) : (stF t o lm).lookup ("make" : Str) = none := by
  unfold stF
  rw [lk_skip (by decide +kernel), lk_skip (by decide +kernel), lk_skip (by decide +kernel), lk_skip (by decide +kernel)]
  rfl
/-- store.make: the thing at x is put behind the things at t; the new Ref isn't needed -/
def spMk (A : Ads) : Sp := fun vs H Q _ => ∃ st ds t o lm x X, vs = [.ref st, .ref x] ∧ H st = some (.ins A.Store ds (stF t o lm)) ∧ H t = some (.lst (X.map V.ref)) ∧ X.length ≤ 100 ∧ ∀ H' r, Same (upd H t (.lst ((X ++ [x]).map V.ref))) H' → Q (.ref r) H'
theorem ok_Store_make (L : Lib P K mg A) : FnOk P w K mg base CX0 3 L.Store_make.f L.Store_make.fd ["self", "thing"] (spMk A) := by
  have G_Ref_init : FnOk P w K mg base CX0 1 L.Ref_init.f L.Ref_init.fd ["self", "number"] (spI1 A.Ref "number") := ok_Ref_init L
  refine L.Store_make.F.ok sc_Store_make (fun vs H Q E h => ?_) (fun cdv A' outer s H vs Q E hr h => ?_)
  · obtain ⟨st, ds, t, o, lm, x, X, rfl, _⟩ := h
    rfl
  · obtain ⟨st, ds, t, o, lm, x, X, rfl, h1, h2, hl, q⟩ := h
    refine ⟨_, (pss_cons (ps_expr (pe_bm PySem.F.plainAttrs_list PySem.F.slot_list_append PySem.F.type_list_append mt_append (pe_fld (pv 0) rfl) (pa_cons (pv 1) pa_nil)))
      (pss_one (ps_ret (pe_make L.Ref_init.m G_Ref_init (hr.mono (by omega)) (by rfl) L.c_Ref.g L.Ref_init.b .nil pass0 (pa_cons (pe_op op_sub (pe_callB call_len_seq (by rfl) L.z_len PySem.boot_len (pa_cons (pe_fld (pv 0) rfl) pa_nil)) pe_int) pa_nil))))), ?_⟩
    have nst : st ≠ t := fun z => by rw [z, h2] at h1; cases h1
    refine ⟨_, rfl, st, A.Store, ds, _, _, rfl, h1, L.c_Store.cl, L.n_Store_things, st_things _ _ _, .inl ⟨rfl, _, SqL.of h2⟩, _, rfl, t, _, _, rfl, rfl, h2, Nat.lt_of_le_of_lt (m := 100000) (by rw [List.length_map]; omega) (by decide), ?_⟩
    have e : X.map V.ref ++ [V.ref x] = (X ++ [x]).map V.ref := by rw [List.map_append]; rfl
    rw [e]
    refine ⟨_, rfl, st, A.Store, ds, _, _, rfl, (by rw [upd_ne nst]; exact h1), L.c_Store.cl, L.n_Store_things, st_things _ _ _, t, _, rfl, .inl (SqL.of upd_same), _, _, rfl, rfl, ?_⟩
    intro r dr nr ndr ndrr
    refine ⟨r, dr, _, rfl, upd_same, fun H1 k1 hR1 => ⟨rfl, ?_⟩⟩
    exact q H1 r (Same.made' nr ndr k1)
/-- a new Ref of a drawn number, as an element -/
def spMach (K : PySem.W.Frag) (A : Ads) : Sp := fun vs H Q _ => ∃ a p ns, vs = [.ref p] ∧ StL K H a p ns ∧ ∀ (H' : Hp) (m st t f : Addr) (g : List (List Nat)), Wm K A H' a p ns m st t f g → g.length ≤ 20 → (∀ cs ∈ g, ∀ c ∈ cs, c < g.length) → 0 < g.length → Keep p H H' → Q (.ref m) H'
theorem ok_law_machine (L : Lib P K mg A) : FnOk P w K mg base CX0 7 L.law_machine.f L.law_machine.fd ["state"] (spMach K A) := by
  have G_law_draw : FnOk P w K mg base CX0 2 L.law_draw.f L.law_draw.fd ["state", "many"] (spDraw K) := ok_law_draw L
  have G_Machine_init : FnOk P w K mg base CX0 5 L.Machine_init.f L.Machine_init.fd ["self", "chunks", "lines"] (spMI K A) := ok_Machine_init L
  have G_Chunk_init : FnOk P w K mg base CX0 1 L.Chunk_init.f L.Chunk_init.fd ["self", "number", "wanted", "rows", "scopes"] (spCk K A) := ok_Chunk_init L
  have G_Ref_init : FnOk P w K mg base CX0 1 L.Ref_init.f L.Ref_init.fd ["self", "number"] (spI1 A.Ref "number") := ok_Ref_init L
  have G_Variable_init : FnOk P w K mg base CX0 1 L.Variable_init.f L.Variable_init.fd ["self", "value"] (spI1 A.Variable "value") := ok_Variable_init L
  have G_Instance_init : FnOk P w K mg base CX0 1 L.Instance_init.f L.Instance_init.fd ["self", "owner"] (spII A) := ok_Instance_init L
  have G_Closure_init : FnOk P w K mg base CX0 1 L.Closure_init.f L.Closure_init.fd ["self", "number", "wanted", "scope"] (spCI A) := ok_Closure_init L
  have G_Parts_init : FnOk P w K mg base CX0 1 L.Parts_init.f L.Parts_init.fd ["self", "held"] (spHI A.Parts "held" K) := ok_Parts_init L
  have G_Store_make : FnOk P w K mg base CX0 3 L.Store_make.f L.Store_make.fd ["self", "thing"] (spMk A) := ok_Store_make L
  refine L.law_machine.F.ok sc_law_machine (fun vs H Q E h => ?_) (fun cdv A' outer s H vs Q E hr h => ?_)
  · obtain ⟨a, p, ns, rfl, _⟩ := h
    rfl
  · obtain ⟨a, p, ns, rfl, st0, q⟩ := h
    refine ⟨_, (pss_cons (ps_set (i := 1) sc_law_machine.nd rfl (.inl rfl) (pe_make L.Machine_init.m G_Machine_init (hr.mono (by omega)) (by rfl) L.c_Machine.g L.Machine_init.b .nil pass0 (pa_cons (pe_lst (pa_cons (pe_make L.Chunk_init.m G_Chunk_init (hr.mono (by omega)) (by rfl) L.c_Chunk.g L.Chunk_init.b L.Chunk_init.vd pass0 (pa_cons pe_int (pa_cons pe_int (pa_cons (pe_lst (pa_cons (pe_tup (pa_cons pe_str (pa_cons pe_non pa_nil))) (pa_cons (pe_tup (pa_cons pe_str pa_nil)) pa_nil))) pa_nil)))) pa_nil)) (pa_cons (pe_lst pa_nil) pa_nil))))
      (pss_cons (ps_set (i := 2) sc_law_machine.nd rfl (.inl rfl) (pe_fld (pv 1) rfl))
      (pss_cons (ps_set (i := 3) sc_law_machine.nd rfl (.inr rfl) (pe_op op_add pe_int (pe_call G_law_draw (hr.mono (by omega)) (by rfl) L.law_draw.g L.law_draw.F.kp L.law_draw.b .nil pass0 (pa_cons (pv 0) (pa_cons pe_int pa_nil)))))
      (pss_cons (ps_for PassesOwn.never rfl (pi_range2 (by rfl) L.z_range (pa_cons pe_int (pa_cons (pv 3) pa_nil))) (pg_name (i := 4) sc_law_machine.nd rfl (.inl rfl))
        (pss_cons (ps_setLc (i := 5) (own := [("j", 7)]) (g := gName 7) (tt := tYes) (by rfl) sc_law_machine.nd rfl rfl (sw_true rfl rfl rfl (by decide +kernel)) (pi_range1 (by rfl) L.z_range (pa_cons (pe_call G_law_draw (hr.mono (by omega)) (by rfl) L.law_draw.g L.law_draw.F.kp L.law_draw.b .nil pass0 (pa_cons (pv 0) (pa_cons pe_int pa_nil))) pa_nil)) (blkOk_by (own := [("j", 7)]) (N := ["state", "machine", "store", "many", "k", "refs", "kind", "j"]) (sc := defScope (top 40)) (by decide +kernel)) (fun _ _ _ _ _ => (pg_name (i := 7) sc_law_machine.nd rfl (.inl rfl))) (fun _ _ _ _ _ => pts_nil) (fun _ _ _ _ _ => (pe_make L.Ref_init.m G_Ref_init (hr.mono (by omega)) (by rfl) L.c_Ref.g L.Ref_init.b .nil pass0 (pa_cons (pe_call G_law_draw (hr.mono (by omega)) (by rfl) L.law_draw.g L.law_draw.F.kp L.law_draw.b .nil pass0 (pa_cons (pv 0) (pa_cons (pv 3) pa_nil))) pa_nil))))
      (pss_cons (ps_set (i := 6) sc_law_machine.nd rfl (.inl rfl) (pe_call G_law_draw (hr.mono (by omega)) (by rfl) L.law_draw.g L.law_draw.F.kp L.law_draw.b .nil pass0 (pa_cons (pv 0) (pa_cons pe_int pa_nil))))
      (pss_one (ps_if (pt_cmpR op_eq (pv 6) pe_int (nomark _))
        (pss_one (ps_expr (pe_meth (pv 2) L.c_Store.cl L.Store_make.m G_Store_make (hr.mono (by omega)) L.Store_make.b .nil pass0 (pa_cons (pe_make L.Variable_init.m G_Variable_init (hr.mono (by omega)) (by rfl) L.c_Variable.g L.Variable_init.b .nil pass0 (pa_cons (pe_make L.Ref_init.m G_Ref_init (hr.mono (by omega)) (by rfl) L.c_Ref.g L.Ref_init.b .nil pass0 (pa_cons (pe_call G_law_draw (hr.mono (by omega)) (by rfl) L.law_draw.g L.law_draw.F.kp L.law_draw.b .nil pass0 (pa_cons (pv 0) (pa_cons (pv 3) pa_nil))) pa_nil)) pa_nil)) pa_nil))))
        (pss_one (ps_if (pt_cmpR op_eq (pv 6) pe_int (nomark _))
        (pss_one (ps_expr (pe_meth (pv 2) L.c_Store.cl L.Store_make.m G_Store_make (hr.mono (by omega)) L.Store_make.b .nil pass0 (pa_cons (pe_make L.Instance_init.m G_Instance_init (hr.mono (by omega)) (by rfl) L.c_Instance.g L.Instance_init.b .nil pass0 (pa_cons (pe_make L.Ref_init.m G_Ref_init (hr.mono (by omega)) (by rfl) L.c_Ref.g L.Ref_init.b .nil pass0 (pa_cons (pe_call G_law_draw (hr.mono (by omega)) (by rfl) L.law_draw.g L.law_draw.F.kp L.law_draw.b .nil pass0 (pa_cons (pv 0) (pa_cons (pv 3) pa_nil))) pa_nil)) pa_nil)) pa_nil))))
        (pss_one (ps_if (pt_cmpR op_eq (pv 6) pe_int (nomark _))
        (pss_one (ps_expr (pe_meth (pv 2) L.c_Store.cl L.Store_make.m G_Store_make (hr.mono (by omega)) L.Store_make.b .nil pass0 (pa_cons (pe_make L.Closure_init.m G_Closure_init (hr.mono (by omega)) (by rfl) L.c_Closure.g L.Closure_init.b .nil pass0 (pa_cons pe_int (pa_cons pe_int (pa_cons (pe_callTy call_tuple_of (by rfl) L.z_tuple (by decide +kernel) (pa_cons (pv 5) pa_nil)) pa_nil)))) pa_nil))))
        (pss_one (ps_expr (pe_meth (pv 2) L.c_Store.cl L.Store_make.m G_Store_make (hr.mono (by omega)) L.Store_make.b .nil pass0 (pa_cons (pe_make L.Parts_init.m G_Parts_init (hr.mono (by omega)) (by rfl) L.c_Parts.g L.Parts_init.b .nil pass0 (pa_cons (pe_op op_cat (pv 5) (pe_lst (pa_cons pe_int pa_nil))) pa_nil)) pa_nil)))))))))))))
      (pss_one (ps_ret (pv 1))))))), ?_⟩
    refine ⟨(by show 2 ≤ sizeLine; decide), fun T1 n1 => ⟨(by show 1 ≤ sizeLine; decide), fun T2 n2 => ⟨(by show 2 ≤ sizeLine; decide), fun l nl => ?_⟩⟩⟩
    have sa := ((same_upd (o := .tup [.str "const", .non]) n1).trans (same_upd (o := .tup [.str "ret"]) n2)).trans (same_upd (o := .lst [.ref T1, .ref T2]) nl)
    have hl : upd (upd (upd H T1 (.tup [.str "const", .non])) T2 (.tup [.str "ret"])) l (.lst [.ref T1, .ref T2]) l = some (.lst [.ref T1, .ref T2]) := upd_same
    generalize upd (upd (upd H T1 _) T2 _) l _ = H1 at sa hl ⊢
    intro ck dck nck ndck nckd
    refine ⟨ck, dck, .int 0, .int 0, l, [.ref T1, .ref T2], L.Chunk_init.e, rfl, upd_same, ?_, L.Chunk_init.se _, fun H2 fs0 k2 hck => ⟨rfl, ?_⟩⟩
    · rw [upd_ne (ne_of_none hl nck), upd_ne (ne_of_none hl ndck)]
      exact hl
    have sb : Same H1 H2 := Same.made' nck ndck k2
    refine ⟨(by show 1 ≤ sizeLine; decide), fun l2 nl2 => ⟨Nat.zero_le _, fun l3 nl3 => ?_⟩⟩
    have sc := (same_upd (o := .lst [.ref ck]) nl2).trans (same_upd (o := .lst []) nl3)
    have hl2 : upd (upd H2 l2 (.lst [.ref ck])) l3 (.lst []) l2 = some (.lst [.ref ck]) := same_upd nl3 _ _ upd_same
    have hl3 : upd (upd H2 l2 (.lst [.ref ck])) l3 (.lst []) l3 = some (.lst []) := upd_same
    have hck3 := sc _ _ hck
    generalize upd (upd H2 l2 _) l3 _ = H3 at sc hl2 hl3 hck3 ⊢
    intro m dm nm ndm nmd
    have up : ∀ {b : Addr} {u : HO}, H3 b = some u → upd (upd H3 dm (.own m)) m (.ins A.Machine dm []) b = some u := fun e => by
      rw [upd_ne (ne_of_none e nm), upd_ne (ne_of_none e ndm)]
      exact e
    refine ⟨m, dm, l2, ck, dck, fs0, l3, rfl, upd_same, up hl2, up hck3, up hl3, fun H4 c b st f pl ds t o lm y dy mm fr k4 hm hst ht hy hmm hf nt nf tf => ⟨rfl, ?_⟩⟩
    have s4 : Same H H4 := ((sa.trans sb).trans sc).trans (Same.made' nm ndm k4)
    have st4 := st0.same s4
    have nt0 : H t = none := by
      cases z : H t with
      | none => rfl
      | some u => rw [up (((sa.trans sb).trans sc) _ _ z)] at nt; cases nt
    have nf0 : H f = none := by
      cases z : H f with
      | none => rfl
      | some u => rw [up (((sa.trans sb).trans sc) _ _ z)] at nf; cases nf
    have nm0 : H m = none := ((sa.trans sb).trans sc).free nm
    obtain ⟨xp, kp, hp, _, hsl⟩ := id st0
    have pt : p ≠ t := fun z => by rw [z, nt0] at hp; cases hp
    have pf : p ≠ f := fun z => by rw [z, nf0] at hp; cases hp
    have hp4 := s4 _ _ hp
    have hM : ∀ c ∈ [p, t, f], ∃ xs, H4 c = some (.lst xs) := fun c hc => by
      simp only [List.mem_cons, List.not_mem_nil, or_false] at hc
      rcases hc with rfl | rfl | rfl
      · exact ⟨_, hp4⟩
      · exact ⟨_, ht⟩
      · exact ⟨_, hf⟩
    have W4 : Wm K A H4 a p ns m st t f [[]] := ⟨st4, pt, pf, tf, sql_apart nt0 hsl, sql_apart nf0 hsl, ⟨dm, c, b, pl, res_ins hM hm nofun⟩, ⟨ds, o, lm, res_ins hM hst nofun⟩, ⟨[y], ht, rfl, fun i x cs e1 e2 => by
      have hi : i = 0 := by
        have := (List.getElem?_eq_some_iff.mp e1).1
        simp at this
        exact this
      subst hi
      cases e1
      cases e2
      exact ⟨[none], .kin dy mm (res_ins hM hy nofun) (res_ins hM hmm nofun), rfl⟩⟩, ⟨_, hf⟩⟩
    have k4 : Keep p H H4 := My.Same.keep s4
    clear hm hst ht hy hmm hf nt nf hl2 hl3 hck3 hl hck sa sb sc up hM hp4 k2
    obtain ⟨dm', c', b', pl', hm⟩ := W4.mc
    refine ⟨_, rfl, m, A.Machine, dm', _, _, rfl, res_sub _ _ _ _ hm, L.c_Machine.cl, L.n_Machine_store, m_store _ _ _ _ _, ?_⟩
    refine ⟨_, rfl, a, p, ns, 19, rfl, st4, by decide, by decide, fun H5 i5 k5 st5 i0 i1 => ⟨_, _, rfl, rfl, ?_⟩⟩
    obtain ⟨n, hn⟩ : ∃ n : Nat, (2 : Int) + i5 = ((n : Nat) : Int) := ⟨(2 + i5).toNat, by omega⟩
    have W5 := W4.kp k5 st5
    have k05 := k4.trans k5
    rw [show (fun i j : Int => V.int (i + j)) 2 i5 = V.int ((n : Nat) : Int) from by show V.int (2 + i5) = _; rw [hn]]
    refine ⟨_, rfl, 1, ((n : Nat) : Int), rfl, ⟨by omega, by omega, by omega, by omega⟩, for_range (lo := 1) (n := (((n : Nat) : Int) - 1).toNat) (fun i σ H' => ∃ (y4 y5 y6 y7 : Option V) (g : List (List Nat)), σ = [some (.ref p), some (.ref m), some (.ref st), some (.int ((n : Nat) : Int)), y4, y5, y6, y7] ∧ Wm K A H' a p ns m st t f g ∧ Keep p H H' ∧ g.length = i + 1 ∧ ∀ cs ∈ g, ∀ c ∈ cs, c < n) ⟨none, none, none, none, _, rfl, W5, k05, rfl, by simp⟩ ?_ ?_⟩
    · rintro i σ H6 hi ⟨y4, y5, y6, y7, g, rfl, W6, k06, gl, gc⟩
      clear W4 W5 hm st4 st5 k05 k4 k5
      refine ⟨_, rfl, a, p, ns, 4, rfl, W6.dr, by decide, by decide, fun H7 i7 k7 st7 j0 j1 => ?_⟩
      obtain ⟨n7, hn7⟩ : ∃ n7 : Nat, i7 = ((n7 : Nat) : Int) := ⟨i7.toNat, by omega⟩
      subst hn7
      refine ⟨_, rfl, by omega, by omega, fun D nD => ?_⟩
      have W7 := W6.kp k7 st7
      obtain ⟨xp7, kp7, hp7, _, _⟩ := id st7
      have Dp : D ≠ p := fun z => by rw [z, hp7] at nD; cases nD
      refine lc_range (lo := 0) (n := n7) (fun j H' => Keep p H7 H' ∧ StL K H' a p ns ∧ ∃ (us : List V) (cs : List Nat), H' D = some (.lst us) ∧ Vls A H' us (cs.map some) ∧ cs.length = j ∧ ∀ c ∈ cs, c < n) ⟨My.Same.keep (same_upd nD), st7.same (same_upd nD), [], [], upd_same, trivial, rfl, by simp⟩ ?_ ?_
      · rintro j H8 hj ⟨k8, st8, us, cs, hD8, hu8, cl8, cc8⟩
        refine ⟨rfl, _, rfl, _, rfl, a, p, ns, ((n : Nat) : Int), rfl, st8, by omega, by omega, fun H9 i9 k9 st9 q0 q1 => ?_⟩
        obtain ⟨n9, hn9⟩ : ∃ n9 : Nat, i9 = ((n9 : Nat) : Int) := ⟨i9.toNat, by omega⟩
        subst hn9
        have hD9 := k9 _ _ hD8 Dp
        intro y dy ny ndy nyd
        refine ⟨y, dy, _, rfl, upd_same, fun H10 k10 hR => ⟨rfl, ?_⟩⟩
        have s10 : Same H9 H10 := Same.made' ny ndy k10
        have hD10 := s10 _ _ hD9
        have ul := hu8.len
        rw [List.length_map] at ul
        have yD : y ≠ D := (ne_of_none hD9 ny).symm
        refine ⟨us, hD10, Nat.lt_of_le_of_lt (m := 100) (by omega) (by decide), ?_⟩
        have k11 : Keep D H10 (upd H10 D (.lst (us ++ [.ref y]))) := keep_upd
        have rD : ∀ b dx fs, H10 b = some (.ins A.Ref dx fs) → upd H10 D (.lst (us ++ [.ref y])) b = some (.ins A.Ref dx fs) := fun b dx fs e => k11 _ _ e fun z => by rw [z, hD10] at e; cases e
        have kall : Keep p H7 (upd H10 D (.lst (us ++ [.ref y]))) := fun b u e np => by
          rw [upd_ne (ne_of_none e nD)]
          exact s10 _ _ (k9 _ _ (k8 _ _ e np) np)
        refine ⟨kall, ?_, us ++ [.ref y], cs ++ [n9], upd_same, ?_, by simp [cl8], fun c hc => ?_⟩
        · obtain ⟨x9, k9', hp9, h09, _⟩ := st9
          exact StL.ofK st7 kall (by rw [upd_ne Dp.symm]; exact s10 _ _ hp9) h09
        · rw [List.map_append]
          refine Vls.app (((hu8.kp st8 k9).same s10).keep rD) ⟨⟨y, dy, rfl, rD _ _ _ hR⟩, trivial⟩
        · rcases List.mem_append.mp hc with z | z
          · exact cc8 c z
          · rw [List.mem_singleton.mp z]; omega
      · rintro H8 ⟨k8, st8, us, cs, hD8, hu8, cl8, cc8⟩
        have W8 := W7.kp k8 st8
        have nDM : D ∉ [p, t, f] := fun z => by
          obtain ⟨v, hv⟩ := W7.dom D z
          rw [hv] at nD; cases nD
        have ul := hu8.len
        rw [List.length_map] at ul
        refine ⟨_, rfl, a, p, ns, 4, rfl, st8, by decide, by decide, fun H9 kd k9 st9 q0 q1 => ?_⟩
        have W9 := W8.kp k9 st9
        have hD9 := k9 _ _ hD8 Dp
        have hu9 := hu8.kp st8 k9
        have k09 : Keep p H H9 := ((k06.trans k7).trans k8).trans k9
        clear k8 k9 st8 W8 W7 k7 st7 hD8 hu8 W6 k06
        have fin : ∀ {Ha : Hp} {x : Addr} {X : List Addr} {os : List (Option Nat)} (y7 : Option V), Wm K A Ha a p ns m st t f g → ThC A (res [p, t, f] Ha) x os → (∀ c ∈ nums os, c < n) → Keep p H Ha → Ha t = some (.lst (X.map V.ref)) → ∀ H', Same (upd Ha t (.lst ((X ++ [x]).map V.ref))) H' → ∃ (z4 z5 z6 z7 : Option V) (g' : List (List Nat)), [some (.ref p), some (.ref m), some (.ref st), some (.int ((n : Nat) : Int)), some (.int (1 + ((i : Nat) : Int))), some (.ref D), some (.int kd), y7] = [some (.ref p), some (.ref m), some (.ref st), some (.int ((n : Nat) : Int)), z4, z5, z6, z7] ∧ Wm K A H' a p ns m st t f g' ∧ Keep p H H' ∧ g'.length = i + 1 + 1 ∧ ∀ cs ∈ g', ∀ c ∈ cs, c < n := fun {Ha x X os} y7 W hx lt k ht H' s' =>
          ⟨_, _, _, _, g ++ [nums os], rfl, (W.push ht hx).same s', fun b u e np => s' _ _ (by rw [upd_ne (ne_of_none e nt0)]; exact k _ _ e np), by rw [List.length_append, gl]; rfl, fun cs hcs c hc => by
            rcases List.mem_append.mp hcs with z | z
            · exact gc cs z c hc
            · rw [List.mem_singleton.mp z] at hc
              exact lt c hc⟩
        have ofSome : ∀ c ∈ nums (cs.map some), c < n := by rw [nums_some]; exact cc8
        refine ⟨_, rfl, rfl, _, rfl, ite2 (fun e0 => ?_) fun e0 => ?_⟩
        · obtain ⟨ds, o, lm, so⟩ := W9.so
          refine ⟨_, rfl, st, ds, _, rfl, res_sub _ _ _ _ so, st_make _ _ _, ?_⟩
          refine ⟨_, rfl, _, rfl, a, p, ns, ((n : Nat) : Int), rfl, st9, by omega, by omega, fun H10 iv k10 st10 q2 q3 => ?_⟩
          obtain ⟨nv, hnv⟩ : ∃ nv : Nat, iv = ((nv : Nat) : Int) := ⟨iv.toNat, by omega⟩
          subst hnv
          have W10 := W9.kp k10 st10
          intro y dy ny ndy nyd
          refine ⟨y, dy, _, rfl, upd_same, fun H11 k11 hR => ⟨rfl, ?_⟩⟩
          have s11 : Same H10 H11 := Same.made' ny ndy k11
          have W11 := W10.same s11
          intro x dx nx ndx nxd
          refine ⟨x, dx, .ref y, rfl, upd_same, fun H12 k12 hx => ⟨rfl, ?_⟩⟩
          have s12 : Same H11 H12 := Same.made' nx ndx k12
          have W12 := W11.same s12
          obtain ⟨X, ht, hX, _⟩ := id W12.th
          obtain ⟨ds2, o2, lm2, so2⟩ := W12.so
          refine ⟨st, ds2, t, o2, lm2, x, X, rfl, res_sub _ _ _ _ so2, ht, by omega, fun H' r s' => ?_⟩
          have hx' : ThC A (res [p, t, f] H12) x [some nv] := .var dx (.ref y) (some nv) (res_new W11.dom nx hx) ⟨y, dy, rfl, res_new W10.dom ny (H' := H12) (s12 _ _ hR)⟩
          exact fin _ W12 hx' (fun c hc => by simp [nums] at hc; omega) ((k09.trans k10).trans (My.Same.keep (s11.trans s12))) ht H' s'
        refine ⟨_, rfl, rfl, _, rfl, ite2 (fun e1 => ?_) fun e1 => ?_⟩
        · obtain ⟨ds, o, lm, so⟩ := W9.so
          refine ⟨_, rfl, st, ds, _, rfl, res_sub _ _ _ _ so, st_make _ _ _, ?_⟩
          refine ⟨_, rfl, _, rfl, a, p, ns, ((n : Nat) : Int), rfl, st9, by omega, by omega, fun H10 iv k10 st10 q2 q3 => ?_⟩
          obtain ⟨nv, hnv⟩ : ∃ nv : Nat, iv = ((nv : Nat) : Int) := ⟨iv.toNat, by omega⟩
          subst hnv
          have W10 := W9.kp k10 st10
          intro y dy ny ndy nyd
          refine ⟨y, dy, _, rfl, upd_same, fun H11 k11 hR => ⟨rfl, ?_⟩⟩
          have s11 : Same H10 H11 := Same.made' ny ndy k11
          have W11 := W10.same s11
          intro x dx nx ndx nxd
          refine ⟨x, dx, .ref y, rfl, upd_same, fun H12 mm k12 hx nm hmm => ⟨rfl, ?_⟩⟩
          have s12 : Same H11 H12 := Same.made' nx ndx k12
          have W12 := W11.same s12
          have nm0 : H11 mm = none := by
            cases z : H11 mm with
            | none => rfl
            | some u =>
              rw [upd_ne (ne_of_none z nx), upd_ne (ne_of_none z ndx), z] at nm
              cases nm
          obtain ⟨X, ht, hX, _⟩ := id W12.th
          obtain ⟨ds2, o2, lm2, so2⟩ := W12.so
          refine ⟨st, ds2, t, o2, lm2, x, X, rfl, res_sub _ _ _ _ so2, ht, by omega, fun H' r s' => ?_⟩
          have hx' : ThC A (res [p, t, f] H12) x [some nv] := .inst dx mm (.ref y) (some nv) (res_new W11.dom nx hx) (res_new W11.dom nm0 hmm) ⟨y, dy, rfl, res_new W10.dom ny (H' := H12) (s12 _ _ hR)⟩
          exact fin _ W12 hx' (fun c hc => by simp [nums] at hc; omega) ((k09.trans k10).trans (My.Same.keep (s11.trans s12))) ht H' s'
        refine ⟨_, rfl, rfl, _, rfl, ite2 (fun e2 => ?_) fun e2 => ?_⟩
        · obtain ⟨ds, o, lm, so⟩ := W9.so
          refine ⟨_, rfl, st, ds, _, rfl, res_sub _ _ _ _ so, st_make _ _ _, ?_⟩
          refine ⟨_, rfl, D, us, rfl, .inl ⟨SqL.of hD9, fun T nT => ?_⟩⟩
          have s10 := same_upd (o := .tup us) nT
          have hT : upd H9 T (.tup us) T = some (.tup us) := upd_same
          have W10 := W9.same s10
          generalize upd H9 T (.tup us) = H10 at s10 hT W10 ⊢
          intro x dx nx ndx nxd
          refine ⟨x, dx, .int 0, .int 0, .ref T, rfl, upd_same, fun H12 k12 hx => ⟨rfl, ?_⟩⟩
          have s12 : Same H10 H12 := Same.made' nx ndx k12
          have W12 := W10.same s12
          obtain ⟨X, ht, hX, _⟩ := id W12.th
          obtain ⟨ds2, o2, lm2, so2⟩ := W12.so
          refine ⟨st, ds2, t, o2, lm2, x, X, rfl, res_sub _ _ _ _ so2, ht, by omega, fun H' r s' => ?_⟩
          have hx' : ThC A (res [p, t, f] H12) x (cs.map some) := .clo dx T (.int 0) (.int 0) us _ (res_new W10.dom nx hx) (res_new W9.dom nT (H' := H12) (s12 _ _ hT)) (W12.refs (fun b dx fs e => s12 _ _ (s10 _ _ e)) hu9) (by rw [List.length_map]; omega)
          exact fin _ W12 hx' ofSome (k09.trans (My.Same.keep (s10.trans s12))) ht H' s'
        obtain ⟨ds, o, lm, so⟩ := W9.so
        refine ⟨_, rfl, st, ds, _, rfl, res_sub _ _ _ _ so, st_make _ _ _, ?_⟩
        refine ⟨_, rfl, (by show 1 ≤ sizeLine; decide), fun l7 nl7 => ?_⟩
        have s7 := same_upd (o := .lst [.int 7]) nl7
        refine ⟨D, l7, us, [.int 7], rfl, rfl, s7 _ _ hD9, upd_same, ?_, fun l8 nl8 => ?_⟩
        · exact Nat.le_trans (m := 100) (by show us.length + 1 ≤ _; omega) (by decide)
        have s10 := s7.trans (same_upd (o := .lst (us ++ [.int 7])) nl8)
        have hl8 : upd (upd H9 l7 (.lst [.int 7])) l8 (.lst (us ++ [.int 7])) l8 = some (.lst (us ++ [.int 7])) := upd_same
        have W10 := W9.same s10
        generalize upd (upd H9 l7 _) l8 _ = H10 at s10 hl8 W10 ⊢
        intro x dx nx ndx nxd
        refine ⟨x, dx, l8, _, rfl, upd_same, SqL.of (by rw [upd_ne (ne_of_none hl8 nx), upd_ne (ne_of_none hl8 ndx)]; exact hl8), fun H12 mm k12 hx nm hmm => ⟨rfl, ?_⟩⟩
        have s12 : Same H10 H12 := Same.made' nx ndx k12
        have W12 := W10.same s12
        have nm0 : H10 mm = none := by
          cases z : H10 mm with
          | none => rfl
          | some u =>
            rw [upd_ne (ne_of_none z nx), upd_ne (ne_of_none z ndx), z] at nm
            cases nm
        obtain ⟨X, ht, hX, _⟩ := id W12.th
        obtain ⟨ds2, o2, lm2, so2⟩ := W12.so
        refine ⟨st, ds2, t, o2, lm2, x, X, rfl, res_sub _ _ _ _ so2, ht, by omega, fun H' r s' => ?_⟩
        have hx' : ThC A (res [p, t, f] H12) x (cs.map some ++ [none]) := .parts dx mm (us ++ [.int 7]) _ (res_new W10.dom nx hx) (res_new W10.dom nm0 hmm) ((W12.refs (fun b dx fs e => s12 _ _ (s10 _ _ e)) hu9).app ⟨.inr (.inl rfl), trivial⟩) (by rw [List.length_append, List.length_map]; simp; omega)
        have e8 : nums (cs.map some ++ [none]) = nums (cs.map some) := by rw [nums_app]; exact List.append_nil _
        exact fin _ W12 hx' (by rw [e8]; exact ofSome) (k09.trans (My.Same.keep (s10.trans s12))) ht H' s'
    · rintro σ H6 ⟨y4, y5, y6, y7, g, rfl, W6, k06, gl, gc⟩
      have gn : g.length = n := by omega
      exact ⟨_, rfl, q H6 m st t f g W6 (by omega) (fun cs hcs c hc => by rw [gn]; exact gc cs hcs c hc) (by omega) k06⟩
end
end My
namespace My
open PySem L2 XV
open C8 (pss_cut tCut cutS_slice pe_gc)
section
variable {P : Program} {w : World} {K : PySem.W.Frag} {mg : Str → Option Value} {base : Heap} {A : Ads}
def spRefs (K : PySem.W.Frag) (A : Ads) : Sp := fun vs H Q _ => ∃ (a p : Addr) (ns : List Int) (n most : Nat), vs = [.ref p, .int ((n : Nat) : Int), .int ((most : Nat) : Int)] ∧ StL K H a p ns ∧ 0 < n ∧ n ≤ 100 ∧ 0 < most ∧ most ≤ 10 ∧ ∀ (H' : Hp) (D : Addr) (us : List V) (cs : List Nat), Keep p H H' → StL K H' a p ns → H D = none → H' D = some (.lst us) → Vls A H' us (cs.map some) → cs.length < most → (∀ c ∈ cs, c < n) → Q (.ref D) H'
theorem ok_law_refs (L : Lib P K mg A) : FnOk P w K mg base CX0 3 L.law_refs.f L.law_refs.fd ["state", "many", "most"] (spRefs K A) := by
  have G_law_draw : FnOk P w K mg base CX0 2 L.law_draw.f L.law_draw.fd ["state", "many"] (spDraw K) := ok_law_draw L
  have G_Ref_init : FnOk P w K mg base CX0 1 L.Ref_init.f L.Ref_init.fd ["self", "number"] (spI1 A.Ref "number") := ok_Ref_init L
  refine L.law_refs.F.ok sc_law_refs (fun vs H Q E h => ?_) (fun cdv A' outer s H vs Q E hr h => ?_)
  · obtain ⟨a, p, ns, n, most, rfl, _⟩ := h
    rfl
  · obtain ⟨a, p, ns, n, most, rfl, st6, n0, n1, m0, m1, q⟩ := h
    refine ⟨_, (pss_one (ps_ret (pe_lc (own := [("k", 3)]) (g := gName 3) (tt := tYes) (by rfl) sc_law_refs.nd (pi_range1 (by rfl) L.z_range (pa_cons (pe_call G_law_draw (hr.mono (by omega)) (by rfl) L.law_draw.g L.law_draw.F.kp L.law_draw.b .nil pass0 (pa_cons (pv 0) (pa_cons (pv 2) pa_nil))) pa_nil)) (blkOk_by (own := [("k", 3)]) (N := ["state", "many", "most", "k"]) (sc := defScope (top 41)) (by decide +kernel)) (fun _ _ _ _ _ => (pg_name (i := 3) sc_law_refs.nd rfl (.inl rfl))) (fun _ _ _ _ _ => pts_nil) (fun _ _ _ _ _ => (pe_make L.Ref_init.m G_Ref_init (hr.mono (by omega)) (by rfl) L.c_Ref.g L.Ref_init.b .nil pass0 (pa_cons (pe_call G_law_draw (hr.mono (by omega)) (by rfl) L.law_draw.g L.law_draw.F.kp L.law_draw.b .nil pass0 (pa_cons (pv 0) (pa_cons (pv 1) pa_nil))) pa_nil)))))), ?_⟩
    refine ⟨_, rfl, _, rfl, a, p, ns, ((most : Nat) : Int), rfl, st6, by omega, by omega, fun H7 i7 k7 st7 j0 j1 => ?_⟩
    obtain ⟨n7, hn7⟩ : ∃ n7 : Nat, i7 = ((n7 : Nat) : Int) := ⟨i7.toNat, by omega⟩
    subst hn7
    refine ⟨_, rfl, by omega, by omega, fun D nD => ?_⟩
    obtain ⟨xp7, kp7, hp7, _, _⟩ := id st7
    have Dp : D ≠ p := fun z => by rw [z, hp7] at nD; cases nD
    have nD0 : H D = none := by
      cases z : H D with
      | none => rfl
      | some u => rw [k7 _ _ z Dp] at nD; cases nD
    refine lc_range (lo := 0) (n := n7) (fun j H' => Keep p H7 H' ∧ StL K H' a p ns ∧ ∃ (us : List V) (cs : List Nat), H' D = some (.lst us) ∧ Vls A H' us (cs.map some) ∧ cs.length = j ∧ ∀ c ∈ cs, c < n) ⟨My.Same.keep (same_upd nD), st7.same (same_upd nD), [], [], upd_same, trivial, rfl, by simp⟩ ?_ ?_
    · rintro j H8 hj ⟨k8, st8, us, cs, hD8, hu8, cl8, cc8⟩
      refine ⟨rfl, _, rfl, _, rfl, a, p, ns, ((n : Nat) : Int), rfl, st8, by omega, by omega, fun H9 i9 k9 st9 q0 q1 => ?_⟩
      obtain ⟨n9, hn9⟩ : ∃ n9 : Nat, i9 = ((n9 : Nat) : Int) := ⟨i9.toNat, by omega⟩
      subst hn9
      have hD9 := k9 _ _ hD8 Dp
      intro y dy ny ndy nyd
      refine ⟨y, dy, _, rfl, upd_same, fun H10 k10 hR => ⟨rfl, ?_⟩⟩
      have s10 : Same H9 H10 := Same.made' ny ndy k10
      have hD10 := s10 _ _ hD9
      have ul := hu8.len
      rw [List.length_map] at ul
      refine ⟨us, hD10, Nat.lt_of_le_of_lt (m := 100) (by omega) (by decide), ?_⟩
      have k11 : Keep D H10 (upd H10 D (.lst (us ++ [.ref y]))) := keep_upd
      have rD : ∀ b dx fs, H10 b = some (.ins A.Ref dx fs) → upd H10 D (.lst (us ++ [.ref y])) b = some (.ins A.Ref dx fs) := fun b dx fs e => k11 _ _ e fun z => by rw [z, hD10] at e; cases e
      have kall : Keep p H7 (upd H10 D (.lst (us ++ [.ref y]))) := fun b u e np => by
        rw [upd_ne (ne_of_none e nD)]
        exact s10 _ _ (k9 _ _ (k8 _ _ e np) np)
      refine ⟨kall, ?_, us ++ [.ref y], cs ++ [n9], upd_same, ?_, by simp [cl8], fun c hc => ?_⟩
      · obtain ⟨x9, k9', hp9, h09, _⟩ := st9
        exact StL.ofK st7 kall (by rw [upd_ne Dp.symm]; exact s10 _ _ hp9) h09
      · rw [List.map_append]
        exact Vls.app (((hu8.kp st8 k9).same s10).keep rD) ⟨⟨y, dy, rfl, rD _ _ _ hR⟩, trivial⟩
      · rcases List.mem_append.mp hc with z | z
        · exact cc8 c z
        · rw [List.mem_singleton.mp z]; omega
    · rintro H8 ⟨k8, st8, us, cs, hD8, hu8, cl8, cc8⟩
      exact q H8 D us cs (k7.trans k8) st8 nD0 hD8 hu8 (by omega) cc8
theorem roots_snoc (fs : List F3) (f : F3) : rootsL (fs ++ [f]) = rootsL fs ++ f.sc ++ f.ab ++ f.inn := by
  unfold rootsL
  rw [List.flatMap_append, List.flatMap_singleton]
  unfold F3.all
  simp only [List.cons_append, List.append_assoc]
theorem scopes_snoc (fs : List F3) (f : F3) : scopesL (fs ++ [f]) = scopesL fs ++ f.sc := by
  unfold scopesL
  rw [List.flatMap_append, List.flatMap_singleton]
theorem scopes_le (fs : List F3) : (scopesL fs).length ≤ (rootsL fs).length := by
  unfold scopesL rootsL
  induction fs with
  | nil => simp
  | cons g fs ih =>
    have e : g.all.length = g.sc.length + g.ab.length + g.inn.length := by
      unfold F3.all
      rw [List.length_append, List.length_append]
    simp only [List.flatMap_cons, List.length_append, List.length_cons] at ih ⊢
    omega
/-- the list of frames is changed -/
theorem Wm.updf {H : Hp} {a p m st t f : Addr} {ns : List Int} {g : List (List Nat)} {ys : List V} (h : Wm K A H a p ns m st t f g) : Wm K A (upd H f (.lst ys)) a p ns m st t f g ∧ res [p, t, f] (upd H f (.lst ys)) = res [p, t, f] H := by
  have e : res [p, t, f] (upd H f (.lst ys)) = res [p, t, f] H := by
    funext b
    unfold res
    by_cases c : b ∈ [p, t, f]
    · rw [if_pos c, if_pos c]
    · rw [if_neg c, if_neg c, upd_ne fun q => c (by rw [q]; simp)]
  obtain ⟨⟨z, k, hp, h0, hs⟩, pt, pf, tf, at_, af, mc, so, ⟨X, ht, hX, hx⟩, _⟩ := h
  exact ⟨⟨⟨z, k, by rw [upd_ne pf]; exact hp, h0, sql_upd af hs⟩, pt, pf, tf, at_, af, by rw [e]; exact mc, by rw [e]; exact so, ⟨X, by rw [upd_ne tf]; exact ht, hX, by rw [e]; exact hx⟩, ⟨ys, upd_same⟩⟩, e⟩
def spFrames (K : PySem.W.Frag) (A : Ads) : Sp := fun vs H Q _ => ∃ (a p : Addr) (ns : List Int) (m st t f : Addr) (g : List (List Nat)), vs = [.ref m, .ref p] ∧ Wm K A H a p ns m st t f g ∧ 0 < g.length ∧ g.length ≤ 20 ∧
  ∀ (H' : Hp) (T rR rS : Addr) (fs : List F3), Wm K A H' a p ns m st t f g → Fm A H' p t f fs → fs.length ≤ 3 → (∀ x ∈ rootsL fs, x < g.length) → (∀ x ∈ scopesL fs, x < g.length) → H' T = some (.tup [.ref rR, .ref rS]) → H' rR = some (.lst (numV (rootsL fs))) → H' rS = some (.lst (numV (scopesL fs))) → rR ≠ p → rS ≠ p → T ≠ p → (∀ b u, H b = some u → b ≠ p → b ≠ f → H' b = some u) → Q (.ref T) H'
theorem ok_law_frames (L : Lib P K mg A) : FnOk P w K mg base CX0 4 L.law_frames.f L.law_frames.fd ["machine", "state"] (spFrames K A) := by
  have G_law_draw : FnOk P w K mg base CX0 2 L.law_draw.f L.law_draw.fd ["state", "many"] (spDraw K) := ok_law_draw L
  have G_law_refs : FnOk P w K mg base CX0 3 L.law_refs.f L.law_refs.fd ["state", "many", "most"] (spRefs K A) := ok_law_refs L
  have G_Frame_init : FnOk P w K mg base CX0 1 L.Frame_init.f L.Frame_init.fd ["self", "number", "scope"] (spFI A) := ok_Frame_init L
  refine L.law_frames.F.ok sc_law_frames (fun vs H Q E h => ?_) (fun cdv A' outer s H vs Q E hr h => ?_)
  · obtain ⟨a, p, ns, m, st, t, f, g, rfl, _⟩ := h
    rfl
  · obtain ⟨a, p, ns, m, st, t, f, g, rfl, W, g0, g1, q⟩ := h
    refine ⟨_, (pss_cons (ps_set (i := 2) sc_law_frames.nd rfl (.inl rfl) (pe_callB call_len_seq (by rfl) L.z_len PySem.boot_len (pa_cons (pe_fld (pe_fld (pv 0) rfl) rfl) pa_nil)))
      (pss_cons (ps_set (i := 3) sc_law_frames.nd rfl (.inl rfl) (pe_lst (pa_cons pe_int pa_nil)))
      (pss_cons (ps_set (i := 4) sc_law_frames.nd rfl (.inl rfl) (pe_lst pa_nil))
      (pss_cons (ps_set (i := 5) sc_law_frames.nd rfl (.inl rfl) (pe_fld (pv 0) rfl))
      (pss_cons (ps_expr (pe_bm0 PySem.F.plainAttrs_list PySem.F.slot_list_clear PySem.F.type_list_clear mt_clear (pv 5)))
      (pss_cons (ps_for PassesOwn.never rfl (pi_range1 (by rfl) L.z_range (pa_cons (pe_call G_law_draw (hr.mono (by omega)) (by rfl) L.law_draw.g L.law_draw.F.kp L.law_draw.b .nil pass0 (pa_cons (pv 1) (pa_cons pe_int pa_nil))) pa_nil)) (pg_name (i := 6) sc_law_frames.nd rfl (.inl rfl))
        (pss_cons (ps_set (i := 7) sc_law_frames.nd rfl (.inl rfl) (pe_call G_law_refs (hr.mono (by omega)) (by rfl) L.law_refs.g L.law_refs.F.kp L.law_refs.b .nil pass0 (pa_cons (pv 1) (pa_cons (pv 2) (pa_cons pe_int pa_nil)))))
      (pss_cons (ps_set (i := 8) sc_law_frames.nd rfl (.inl rfl) (pe_make L.Frame_init.m G_Frame_init (hr.mono (by omega)) (by rfl) L.c_Frame.g L.Frame_init.b .nil pass0 (pa_cons pe_int (pa_cons (pe_callTy call_tuple_of (by rfl) L.z_tuple (by decide +kernel) (pa_cons (pv 7) pa_nil)) pa_nil))))
      (pss_cons (ps_set (i := 9) sc_law_frames.nd rfl (.inl rfl) (pe_call G_law_refs (hr.mono (by omega)) (by rfl) L.law_refs.g L.law_refs.F.kp L.law_refs.b .nil pass0 (pa_cons (pv 1) (pa_cons (pv 2) (pa_cons pe_int pa_nil)))))
      (pss_cons (ps_set (i := 10) sc_law_frames.nd rfl (.inl rfl) (pe_call G_law_refs (hr.mono (by omega)) (by rfl) L.law_refs.g L.law_refs.F.kp L.law_refs.b .nil pass0 (pa_cons (pv 1) (pa_cons (pv 2) (pa_cons pe_int pa_nil)))))
      (pss_cons (ps_set (i := 11) sc_law_frames.nd rfl (.inl rfl) (pe_fld (pv 8) rfl))
      (pss_cons (ps_expr (pe_bm PySem.F.plainAttrs_list PySem.F.slot_list_extend PySem.F.type_list_extend mt_extend (pv 11) (pa_cons (pe_op op_cat (pv 9) (pe_lst (pa_cons pe_non (pa_cons pe_str pa_nil)))) pa_nil)))
      (pss_cons (ps_set (i := 12) sc_law_frames.nd rfl (.inl rfl) (pe_fld (pv 8) rfl))
      (pss_cons (ps_expr (pe_bm PySem.F.plainAttrs_list PySem.F.slot_list_append PySem.F.type_list_append mt_append (pv 12) (pa_cons (pe_tup (pa_cons pe_int (pa_cons (pe_callTy call_tuple_of (by rfl) L.z_tuple (by decide +kernel) (pa_cons (pv 10) pa_nil)) pa_nil))) pa_nil)))
      (pss_cons (ps_set (i := 3) sc_law_frames.nd rfl (.inl rfl) (pe_op op_cat (pe_op op_cat (pe_op op_cat (pv 3) (pe_lc (own := [("ref", 13)]) (g := gName 13) (tt := tYes) (by rfl) sc_law_frames.nd (pi_list (pv 7)) (blkOk_by (own := [("ref", 13)]) (N := ["machine", "state", "many", "roots", "scopes", "frames", "k", "scope", "frame", "above", "inner", "stack", "handlers", "ref"]) (sc := defScope (top 42)) (by decide +kernel)) (fun _ _ _ _ _ => (pg_name (i := 13) sc_law_frames.nd rfl (.inl rfl))) (fun _ _ _ _ _ => pts_nil) (fun _ _ _ _ _ => (show PE _ _ (tFld K _ _) from pe_fld (pv 13) rfl)))) (pe_lc (own := [("ref", 13)]) (g := gName 13) (tt := tYes) (by rfl) sc_law_frames.nd (pi_list (pv 9)) (blkOk_by (own := [("ref", 13)]) (N := ["machine", "state", "many", "roots", "scopes", "frames", "k", "scope", "frame", "above", "inner", "stack", "handlers", "ref"]) (sc := defScope (top 42)) (by decide +kernel)) (fun _ _ _ _ _ => (pg_name (i := 13) sc_law_frames.nd rfl (.inl rfl))) (fun _ _ _ _ _ => pts_nil) (fun _ _ _ _ _ => (show PE _ _ (tFld K _ _) from pe_fld (pv 13) rfl)))) (pe_lc (own := [("ref", 13)]) (g := gName 13) (tt := tYes) (by rfl) sc_law_frames.nd (pi_list (pv 10)) (blkOk_by (own := [("ref", 13)]) (N := ["machine", "state", "many", "roots", "scopes", "frames", "k", "scope", "frame", "above", "inner", "stack", "handlers", "ref"]) (sc := defScope (top 42)) (by decide +kernel)) (fun _ _ _ _ _ => (pg_name (i := 13) sc_law_frames.nd rfl (.inl rfl))) (fun _ _ _ _ _ => pts_nil) (fun _ _ _ _ _ => (show PE _ _ (tFld K _ _) from pe_fld (pv 13) rfl)))))
      (pss_cons (ps_expr (pe_bm PySem.F.plainAttrs_list PySem.F.slot_list_append PySem.F.type_list_append mt_append (pv 5) (pa_cons (pv 8) pa_nil)))
      (pss_one (ps_set (i := 4) sc_law_frames.nd rfl (.inl rfl) (pe_op op_cat (pv 4) (pe_lc (own := [("ref", 13)]) (g := gName 13) (tt := tYes) (by rfl) sc_law_frames.nd (pi_list (pv 7)) (blkOk_by (own := [("ref", 13)]) (N := ["machine", "state", "many", "roots", "scopes", "frames", "k", "scope", "frame", "above", "inner", "stack", "handlers", "ref"]) (sc := defScope (top 42)) (by decide +kernel)) (fun _ _ _ _ _ => (pg_name (i := 13) sc_law_frames.nd rfl (.inl rfl))) (fun _ _ _ _ _ => pts_nil) (fun _ _ _ _ _ => (show PE _ _ (tFld K _ _) from pe_fld (pv 13) rfl)))))))))))))))))
      (pss_one (ps_ret (pe_tup (pa_cons (pv 3) (pa_cons (pv 4) pa_nil))))))))))), ?_⟩
    obtain ⟨dm, c, b, pl, hm⟩ := W.mc
    obtain ⟨ds, o, lm, hso⟩ := W.so
    obtain ⟨X, hX, hXl, _⟩ := id W.th
    obtain ⟨Y, hf⟩ := W.ff
    have hm1 := res_sub _ _ _ _ hm
    have hst1 := res_sub _ _ _ _ hso
    refine ⟨_, rfl, m, A.Machine, dm, _, _, rfl, hm1, L.c_Machine.cl, L.n_Machine_store, m_store _ _ _ _ _, st, A.Store, ds, _, _, rfl, hst1, L.c_Store.cl, L.n_Store_things, st_things _ _ _, t, _, rfl, .inl (SqL.of hX), ?_⟩
    rw [show (X.map V.ref).length = g.length from by rw [List.length_map, hXl]]
    refine ⟨(by show 1 ≤ sizeLine; decide), fun R0 nR0 => ⟨Nat.zero_le _, fun S0 nS0 => ?_⟩⟩
    have s1 := (same_upd (o := .lst [.int 0]) nR0).trans (same_upd (o := .lst []) nS0)
    have hR0 : upd (upd H R0 (.lst [.int 0])) S0 (.lst []) R0 = some (.lst (numV (rootsL []))) := same_upd nS0 _ _ upd_same
    have hS0 : upd (upd H R0 (.lst [.int 0])) S0 (.lst []) S0 = some (.lst (numV (scopesL []))) := upd_same
    have nS00 : H S0 = none := (same_upd (o := .lst [.int 0]) nR0).free nS0
    have W1 := W.same s1
    generalize upd (upd H R0 _) S0 _ = H1 at s1 hR0 hS0 W1 ⊢
    have pM := W.dom
    have R0f : R0 ≠ f := fun z => by rw [z, hf] at nR0; cases nR0
    have S0f : S0 ≠ f := fun z => by rw [z, hf] at nS00; cases nS00
    obtain ⟨vp, hvp⟩ := pM p (by simp)
    have R0p : R0 ≠ p := fun z => by rw [z, hvp] at nR0; cases nR0
    have S0p : S0 ≠ p := fun z => by rw [z, hvp] at nS00; cases nS00
    refine ⟨_, rfl, m, A.Machine, dm, _, _, rfl, s1 _ _ hm1, L.c_Machine.cl, L.n_Machine_frames, m_frames _ _ _ _ _, ?_⟩
    refine ⟨_, rfl, .inl ⟨rfl, _, SqL.of (s1 _ _ hf)⟩, f, Y, rfl, rfl, s1 _ _ hf, ?_⟩
    obtain ⟨W2, e2⟩ := W1.updf (ys := [])
    have hf2 : upd H1 f (.lst []) f = some (.lst []) := upd_same
    have hR2 : upd H1 f (.lst []) R0 = some (.lst (numV (rootsL []))) := by rw [upd_ne R0f]; exact hR0
    have hS2 : upd H1 f (.lst []) S0 = some (.lst (numV (scopesL []))) := by rw [upd_ne S0f]; exact hS0
    have K2 : ∀ b u, H b = some u → b ≠ p → b ≠ f → upd H1 f (.lst []) b = some u := fun b u e _ nf => by rw [upd_ne nf]; exact s1 _ _ e
    generalize upd H1 f (.lst []) = H2 at W2 e2 hf2 hR2 hS2 K2 ⊢
    refine ⟨_, rfl, a, p, ns, 4, rfl, W2.dr, by decide, by decide, fun H3 i3 k3 st3 j0 j1 => ?_⟩
    obtain ⟨n3, hn3⟩ : ∃ n3 : Nat, i3 = ((n3 : Nat) : Int) := ⟨i3.toNat, by omega⟩
    subst hn3
    refine ⟨_, rfl, by omega, by omega, for_range (n := n3) (fun i σ H' => ∃ (R S : Addr) (fs : List F3) (y6 y7 y8 y9 y10 y11 y12 y13 : Option V), σ = [some (.ref m), some (.ref p), some (.int ((g.length : Nat) : Int)), some (.ref R), some (.ref S), some (.ref f), y6, y7, y8, y9, y10, y11, y12, y13] ∧ Wm K A H' a p ns m st t f g ∧ Fm A H' p t f fs ∧ fs.length = i ∧ H' R = some (.lst (numV (rootsL fs))) ∧ H' S = some (.lst (numV (scopesL fs))) ∧ R ≠ p ∧ S ≠ p ∧ R ≠ f ∧ S ≠ f ∧ (∀ x ∈ rootsL fs, x < g.length) ∧ (∀ x ∈ scopesL fs, x < g.length) ∧ ∀ b u, H b = some u → b ≠ p → b ≠ f → H' b = some u) ⟨R0, S0, [], none, none, none, none, none, none, none, none, rfl, W2.kp k3 st3, ⟨[], k3 _ _ hf2 W.pf.symm, rfl, fun i x fr e => by simp at e⟩, rfl, k3 _ _ hR2 R0p, k3 _ _ hS2 S0p, R0p, S0p, R0f, S0f, fun x hx => by simp [rootsL] at hx; omega, fun x hx => by simp [scopesL] at hx, fun b u e np nf => k3 _ _ (K2 b u e np nf) np⟩ ?_ ?_⟩
    · clear W1 W2 hR0 hS0 hR2 hS2 e2 hf2 K2 k3 st3 s1
      rintro i σ H4 hi ⟨R, S, fs, y6, y7, y8, y9, y10, y11, y12, y13, rfl, W4, F4, fl, hR4, hS4, Rp, Sp, Rf, Sf, ltR, ltS, K4⟩
      refine ⟨_, rfl, _, rfl, a, p, ns, g.length, 4, rfl, W4.dr, g0, by omega, by omega, by omega, fun H5 Ds us1 sc k5 st5 nDs hDs hu1 l1 c1 => ?_⟩
      obtain ⟨v5, hv5⟩ := W4.dom p (by simp)
      have DsM : Ds ≠ p := fun z => by rw [z, hv5] at nDs; cases nDs
      have W5 := W4.kp k5 st5
      refine ⟨_, rfl, Ds, us1, rfl, .inl ⟨SqL.of hDs, fun T nT => ?_⟩⟩
      have s6 := same_upd (o := .tup us1) nT
      have hT6 : upd H5 T (.tup us1) T = some (.tup us1) := upd_same
      have W6 := W5.same s6
      generalize upd H5 T (.tup us1) = H6 at s6 hT6 W6 ⊢
      intro x dx nx ndx nxd
      refine ⟨x, dx, .int 0, T, rfl, upd_same, fun H7 k h k7 hx nk nh nkh hk hh => ⟨rfl, ?_⟩⟩
      have s7 : Same H6 H7 := Same.made' nx ndx k7
      have fresh7 : ∀ {b : Addr}, upd (upd H6 dx (.own x)) x (.ins A.Frame dx []) b = none → H6 b = none := fun {b} e => by
        cases z : H6 b with
        | none => rfl
        | some u => rw [upd_ne (ne_of_none z nx), upd_ne (ne_of_none z ndx), z] at e; cases e
      have nk6 := fresh7 nk
      have nh6 := fresh7 nh
      have W7 := W6.same s7
      have kM : ∀ c ∈ [p, t, f], k ≠ c := fun c hc z => by obtain ⟨v, hv⟩ := W6.dom c hc; rw [← z, nk6] at hv; cases hv
      have hMh : ∀ c ∈ [p, t, f], h ≠ c := fun c hc z => by obtain ⟨v, hv⟩ := W6.dom c hc; rw [← z, nh6] at hv; cases hv
      have kp := kM p (by simp)
      have hp := hMh p (by simp)
      have hT7 := s7 _ _ hT6
      have hDs7 := s7 _ _ (s6 _ _ hDs)
      have hu17 := (hu1.same s6).same s7
      refine ⟨_, rfl, _, rfl, a, p, ns, g.length, 3, rfl, W7.dr, g0, by omega, by omega, by omega, fun H8 Da us2 ab k8 st8 nDa hDa hu2 l2 c2 => ?_⟩
      obtain ⟨v7, hv7⟩ := W7.dom p (by simp)
      have Dap : Da ≠ p := fun z => by rw [z, hv7] at nDa; cases nDa
      refine ⟨_, rfl, _, rfl, a, p, ns, g.length, 3, rfl, st8, g0, by omega, by omega, by omega, fun H9 Di us3 inn k9 st9 nDi hDi hu3 l3 c3 => ?_⟩
      have k79 : Keep p H7 H9 := k8.trans k9
      have W9 := W7.kp k79 st9
      have lstp : ∀ {b : Addr} {u : HO}, H7 b = some u → b ≠ p → H9 b = some u := fun e n => k79 _ _ e n
      have xp : x ≠ p := fun z => by
        obtain ⟨xs, hv⟩ := W7.doml p (by simp)
        rw [z, hv] at hx; cases hx
      have Tp : T ≠ p := fun z => by
        obtain ⟨xs, hv⟩ := W7.doml p (by simp)
        rw [z, hv] at hT7; cases hT7
      have hx9 := lstp hx xp
      have hT9 := lstp hT7 Tp
      have hk9 := lstp hk kp
      have hh9 := lstp hh hp
      have hDs9 := lstp hDs7 DsM
      have hu19 := hu17.kp W7.dr k79
      have hDa9 := k9 _ _ hDa Dap
      have hu29 := hu2.kp st8 k9
      have Rk : R ≠ k := ne_of_none (s6 _ _ (k5 _ _ hR4 Rp)) nk6
      have Rh : R ≠ h := ne_of_none (s6 _ _ (k5 _ _ hR4 Rp)) nh6
      have Sk : S ≠ k := ne_of_none (s6 _ _ (k5 _ _ hS4 Sp)) nk6
      have Sh : S ≠ h := ne_of_none (s6 _ _ (k5 _ _ hS4 Sp)) nh6
      have Dsk : Ds ≠ k := ne_of_none (s6 _ _ hDs) nk6
      have Dsh : Ds ≠ h := ne_of_none (s6 _ _ hDs) nh6
      have Dak : Da ≠ k := (ne_of_none hk nDa).symm
      have Dah : Da ≠ h := (ne_of_none hh nDa).symm
      have Dik : Di ≠ k := (ne_of_none (k8 _ _ hk kp) nDi).symm
      have Dih : Di ≠ h := (ne_of_none (k8 _ _ hh hp) nDi).symm
      have hR9 := lstp (s7 _ _ (s6 _ _ (k5 _ _ hR4 Rp))) Rp
      have hS9 := lstp (s7 _ _ (s6 _ _ (k5 _ _ hS4 Sp))) Sp
      have ul1 := hu19.len
      have ul2 := hu29.len
      have ul3 := hu3.len
      rw [List.length_map] at ul1 ul2 ul3
      refine ⟨_, rfl, x, A.Frame, dx, _, _, rfl, hx9, L.c_Frame.cl, L.n_Frame_stack, f_stack _ _ _ _, ?_⟩
      refine ⟨_, rfl, .inl ⟨rfl, _, SqL.of hk9⟩, _, rfl, (by show 2 ≤ sizeLine; decide), fun l2' nl2 => ?_⟩
      have sA := same_upd (o := .lst [.non, .str "x"]) nl2
      refine ⟨Da, l2', us2, [.non, .str "x"], rfl, rfl, sA _ _ hDa9, upd_same, ?_, fun l3' nl3 => ?_⟩
      · exact Nat.le_trans (m := 100) (by show us2.length + 2 ≤ _; omega) (by decide)
      have sB := sA.trans (same_upd (o := .lst (us2 ++ [.non, .str "x"])) nl3)
      have hl3 : upd (upd H9 l2' (.lst [.non, .str "x"])) l3' (.lst (us2 ++ [.non, .str "x"])) l3' = some (.lst (us2 ++ [.non, .str "x"])) := upd_same
      generalize upd (upd H9 l2' _) l3' _ = H10 at sB hl3 ⊢
      refine ⟨k, l3', [], _, rfl, rfl, sB _ _ hk9, hl3, ?_, ?_⟩
      · rw [List.length_append]
        exact Nat.le_trans (m := 100) (by show 0 + (us2.length + 2) ≤ _; omega) (by decide)
      rw [List.nil_append]
      have KB : ∀ {b : Addr} {u : HO}, H9 b = some u → b ≠ k → upd H10 k (.lst (us2 ++ [.non, .str "x"])) b = some u := fun e n => by rw [upd_ne n]; exact sB _ _ e
      have hk11 : upd H10 k (.lst (us2 ++ [.non, .str "x"])) k = some (.lst (us2 ++ [.non, .str "x"])) := upd_same
      generalize upd H10 k _ = H11 at KB hk11 ⊢
      have xk : x ≠ k := fun z => by rw [z, hk9] at hx9; cases hx9
      have xh : x ≠ h := fun z => by rw [z, hh9] at hx9; cases hx9
      have Tk : T ≠ k := fun z => by rw [z, hk9] at hT9; cases hT9
      have Th : T ≠ h := fun z => by rw [z, hh9] at hT9; cases hT9
      refine ⟨_, rfl, x, A.Frame, dx, _, _, rfl, KB hx9 xk, L.c_Frame.cl, L.n_Frame_handlers, f_handlers _ _ _ _, ?_⟩
      have hh11 := KB hh9 nkh.symm
      refine ⟨_, rfl, .inl ⟨rfl, _, SqL.of hh11⟩, _, rfl, Di, us3, rfl, .inl ⟨SqL.of (KB hDi Dik), fun ti nti => ⟨(by show 2 ≤ sizeLine; decide), fun tu ntu => ?_⟩⟩⟩
      have sC := (same_upd (o := .tup us3) nti).trans (same_upd (o := .tup [.int 0, .ref ti]) ntu)
      have hti : upd (upd H11 ti (.tup us3)) tu (.tup [.int 0, .ref ti]) ti = some (.tup us3) := same_upd ntu _ _ upd_same
      have htu : upd (upd H11 ti (.tup us3)) tu (.tup [.int 0, .ref ti]) tu = some (.tup [.int 0, .ref ti]) := upd_same
      generalize upd (upd H11 ti _) tu _ = H12 at sC hti htu ⊢
      refine ⟨h, [], _, rfl, rfl, sC _ _ hh11, (by decide), ?_⟩
      rw [List.nil_append]
      have KC : ∀ {b : Addr} {u : HO}, H9 b = some u → b ≠ k → b ≠ h → upd H12 h (.lst [.ref tu]) b = some u := fun e n1 n2 => by rw [upd_ne n2]; exact sC _ _ (KB e n1)
      have hh13 : upd H12 h (.lst [.ref tu]) h = some (.lst [.ref tu]) := upd_same
      have hk13 : upd H12 h (.lst [.ref tu]) k = some (.lst (us2 ++ [.non, .str "x"])) := by rw [upd_ne nkh]; exact sC _ _ hk11
      have hti13 : upd H12 h (.lst [.ref tu]) ti = some (.tup us3) := by rw [upd_ne fun z => by rw [z, sC _ _ hh11] at hti; cases hti]; exact hti
      have htu13 : upd H12 h (.lst [.ref tu]) tu = some (.tup [.int 0, .ref ti]) := by rw [upd_ne fun z => by rw [z, sC _ _ hh11] at htu; cases htu]; exact htu
      generalize upd H12 h _ = H13 at KC hh13 hk13 hti13 htu13 ⊢
      clear KB sC sB sA hk11 hh11 hti htu hl3
      have rl : (rootsL fs).length ≤ 28 := by
        have := roots_len (fs := fs) fun f' hf' => by
          obtain ⟨Y', _, hY', hfr'⟩ := F4
          obtain ⟨j, hj, rfl⟩ := List.getElem_of_mem hf'
          have := (hfr' j Y'[j] fs[j] (List.getElem?_eq_getElem (by omega)) (List.getElem?_eq_getElem hj)).le
          unfold F3.all
          rw [List.length_append, List.length_append]
          omega
        omega
      have hR13 := KC hR9 Rk Rh
      have hS13 := KC hS9 Sk Sh
      have kref : ∀ b dx' fs', H9 b = some (.ins A.Ref dx' fs') → H13 b = some (.ins A.Ref dx' fs') := fun b dx' fs' e => KC e (fun z => by rw [z, hk9] at e; cases e) (fun z => by rw [z, hh9] at e; cases e)
      have hu113 := hu19.keep kref
      have hu213 := hu29.keep kref
      have hu313 := hu3.keep kref
      have hDs13 := KC hDs9 Dsk Dsh
      have hDa13 := KC hDa9 Dak Dah
      have hDi13 := KC hDi Dik Dih
      have cat : ∀ {a b : List Nat}, a.length + b.length ≤ 100 → (numV a).length + (numV b).length ≤ sizeLine := fun h => by rw [numV_len, numV_len]; exact Nat.le_trans h (by decide)
      refine ⟨_, rfl, ?_⟩
      refine ⟨_, rfl, Ds, rfl, ⟨_, SqL.of (hDs13)⟩, fun E1 nE1 => ?_⟩
      refine lc_list (K := K) (a := Ds) (xs := us1) (fun j H' => Same H13 H' ∧ H' E1 = some (.lst (numV (sc.take j)))) ⟨same_upd nE1, upd_same⟩ (fun j H' _ q => SqL.of (q.1 _ _ (hDs13))) ?_ ?_
      · rintro j v Hj hv ⟨sj, ej⟩
        obtain ⟨ob, ho, hvo⟩ := ((hu113).same sj).at hv
        rw [List.getElem?_map] at ho
        obtain ⟨n', hn', rfl⟩ := Option.map_eq_some_iff.mp ho
        obtain ⟨ra, rd, rfl, hra⟩ := hvo
        refine ⟨rfl, _, rfl, ra, A.Ref, rd, _, _, rfl, hra, L.c_Ref.cl, L.n_Ref_number, lk_hit, _, ej, ?_, My.Same.put sj nE1, ?_⟩
        · rw [numV_len, List.length_take]
          exact Nat.lt_of_le_of_lt (m := 100) (by omega) (by decide)
        · rw [upd_same, List.take_add_one, hn']
          exact congrArg (fun l => Option.some (HO.lst l)) (numV_app _ [n'])
      rintro H14 ⟨s1, e1⟩
      rw [ul1, List.take_length] at e1
      refine ⟨R, E1, _, _, rfl, rfl, s1 _ _ hR13, e1, cat (by omega), fun Z1 nZ1 => ?_⟩
      have t1 := s1.trans (same_upd (o := .lst (numV (rootsL fs) ++ numV sc)) nZ1)
      have hZ1 : upd H14 Z1 (.lst (numV (rootsL fs) ++ numV sc)) Z1 = some (.lst (numV (rootsL fs ++ sc))) := by rw [upd_same, numV_app]
      generalize upd H14 Z1 _ = H15 at t1 hZ1 ⊢
      refine ⟨_, rfl, Da, rfl, ⟨_, SqL.of (t1 _ _ hDa13)⟩, fun E2 nE2 => ?_⟩
      refine lc_list (K := K) (a := Da) (xs := us2) (fun j H' => Same H15 H' ∧ H' E2 = some (.lst (numV (ab.take j)))) ⟨same_upd nE2, upd_same⟩ (fun j H' _ q => SqL.of (q.1 _ _ (t1 _ _ hDa13))) ?_ ?_
      · rintro j v Hj hv ⟨sj, ej⟩
        obtain ⟨ob, ho, hvo⟩ := ((hu213.same t1).same sj).at hv
        rw [List.getElem?_map] at ho
        obtain ⟨n', hn', rfl⟩ := Option.map_eq_some_iff.mp ho
        obtain ⟨ra, rd, rfl, hra⟩ := hvo
        refine ⟨rfl, _, rfl, ra, A.Ref, rd, _, _, rfl, hra, L.c_Ref.cl, L.n_Ref_number, lk_hit, _, ej, ?_, My.Same.put sj nE2, ?_⟩
        · rw [numV_len, List.length_take]
          exact Nat.lt_of_le_of_lt (m := 100) (by omega) (by decide)
        · rw [upd_same, List.take_add_one, hn']
          exact congrArg (fun l => Option.some (HO.lst l)) (numV_app _ [n'])
      rintro H16 ⟨s2, e2⟩
      rw [ul2, List.take_length] at e2
      refine ⟨Z1, E2, _, _, rfl, rfl, s2 _ _ hZ1, e2, cat (by rw [List.length_append]; omega), fun Z2 nZ2 => ?_⟩
      have t2 := (t1.trans s2).trans (same_upd (o := .lst (numV (rootsL fs ++ sc) ++ numV ab)) nZ2)
      have hZ2 : upd H16 Z2 (.lst (numV (rootsL fs ++ sc) ++ numV ab)) Z2 = some (.lst (numV (rootsL fs ++ sc ++ ab))) := by rw [upd_same, numV_app]
      generalize upd H16 Z2 _ = H17 at t2 hZ2 ⊢
      refine ⟨_, rfl, Di, rfl, ⟨_, SqL.of (t2 _ _ hDi13)⟩, fun E3 nE3 => ?_⟩
      refine lc_list (K := K) (a := Di) (xs := us3) (fun j H' => Same H17 H' ∧ H' E3 = some (.lst (numV (inn.take j)))) ⟨same_upd nE3, upd_same⟩ (fun j H' _ q => SqL.of (q.1 _ _ (t2 _ _ hDi13))) ?_ ?_
      · rintro j v Hj hv ⟨sj, ej⟩
        obtain ⟨ob, ho, hvo⟩ := ((hu313.same t2).same sj).at hv
        rw [List.getElem?_map] at ho
        obtain ⟨n', hn', rfl⟩ := Option.map_eq_some_iff.mp ho
        obtain ⟨ra, rd, rfl, hra⟩ := hvo
        refine ⟨rfl, _, rfl, ra, A.Ref, rd, _, _, rfl, hra, L.c_Ref.cl, L.n_Ref_number, lk_hit, _, ej, ?_, My.Same.put sj nE3, ?_⟩
        · rw [numV_len, List.length_take]
          exact Nat.lt_of_le_of_lt (m := 100) (by omega) (by decide)
        · rw [upd_same, List.take_add_one, hn']
          exact congrArg (fun l => Option.some (HO.lst l)) (numV_app _ [n'])
      rintro H18 ⟨s3, e3⟩
      rw [ul3, List.take_length] at e3
      refine ⟨Z2, E3, _, _, rfl, rfl, s3 _ _ hZ2, e3, cat (by rw [List.length_append, List.length_append]; omega), fun Z3 nZ3 => ?_⟩
      have t3 := (t2.trans s3).trans (same_upd (o := .lst (numV (rootsL fs ++ sc ++ ab) ++ numV inn)) nZ3)
      have hZ3 : upd H18 Z3 (.lst (numV (rootsL fs ++ sc ++ ab) ++ numV inn)) Z3 = some (.lst (numV (rootsL fs ++ sc ++ ab ++ inn))) := by rw [upd_same, numV_app]
      have nZ30 : H13 Z3 = none := (t2.trans s3).free nZ3
      generalize upd H18 Z3 _ = H19 at t3 hZ3 ⊢
      obtain ⟨x9, i9, hp9, h09, _⟩ := id st9
      have K419 : Keep p H4 H19 := fun b u e n => t3 _ _ (KC (lstp (s7 _ _ (s6 _ _ (k5 _ _ e n))) n) (ne_of_none (s6 _ _ (k5 _ _ e n)) nk6) (ne_of_none (s6 _ _ (k5 _ _ e n)) nh6))
      have st19 : StL K H19 a p ns := StL.ofK W4.dr K419 (t3 _ _ (KC hp9 kp.symm hp.symm)) h09
      have W19 := W4.kp K419 st19
      obtain ⟨Y4, hY4, hYl, hYf⟩ := F4.kp W.pf K419
      have hS19 := t3 _ _ hS13
      have hDs19 := t3 _ _ hDs13
      have fr : FrC A (res [p, t, f] H19) x ⟨sc, ab, inn⟩ := ⟨⟨dx, T, k, h, tu, ti, .int 0, us1, us2, us3, res_ins W19.doml (t3 _ _ (KC hx9 xk xh)) nofun, res_ins W19.doml (t3 _ _ (KC hT9 Tk Th)) nofun, W19.refs (fun b d e z => t3 _ _ (kref b d e z)) hu19, by rw [res_in fun z => kM k z rfl]; exact t3 _ _ hk13, W19.refs (fun b d e z => t3 _ _ (kref b d e z)) hu29, by rw [res_in fun z => hMh h z rfl]; exact t3 _ _ hh13, res_ins W19.doml (t3 _ _ htu13) nofun, res_ins W19.doml (t3 _ _ hti13) nofun, W19.refs (fun b d e z => t3 _ _ (kref b d e z)) hu3⟩, by show sc.length ≤ 3 ∧ ab.length ≤ 3 ∧ inn.length ≤ 3; omega⟩
      have Dsf : Ds ≠ f := fun z => by rw [z] at nDs; obtain ⟨v, hv⟩ := W4.dom f (by simp); rw [hv] at nDs; cases nDs
      have Z3p : Z3 ≠ p := fun z => by rw [z, KC hp9 kp.symm hp.symm] at nZ30; cases nZ30
      have hf13 : ∃ v, H13 f = some v := by
        obtain ⟨v, hv⟩ := W4.dom f (by simp)
        exact ⟨_, KC (lstp (s7 _ _ (s6 _ _ (k5 _ _ hv W.pf.symm))) W.pf.symm) (kM f (by simp)).symm (hMh f (by simp)).symm⟩
      have Z3f : Z3 ≠ f := fun z => by obtain ⟨v, hv⟩ := hf13; rw [z, hv] at nZ30; cases nZ30
      have hu119 := hu113.same t3
      refine ⟨_, rfl, .inl ⟨rfl, _, SqL.of hY4⟩, _, rfl, f, _, _, rfl, rfl, hY4, Nat.lt_of_le_of_lt (m := 100) (by rw [List.length_map]; omega) (by decide), ?_⟩
      obtain ⟨W20, e20⟩ := W19.updf (ys := Y4.map V.ref ++ [.ref x])
      have F20 : Fm A (upd H19 f (.lst (Y4.map V.ref ++ [.ref x]))) p t f (fs ++ [⟨sc, ab, inn⟩]) := ⟨Y4 ++ [x], by rw [upd_same, List.map_append]; rfl, by rw [List.length_append, List.length_append, hYl]; rfl, fun j y q e1 e2 => by
        rw [e20]
        by_cases hj : j < Y4.length
        · rw [List.getElem?_append_left hj] at e1
          rw [List.getElem?_append_left (by omega)] at e2
          exact hYf j y q e1 e2
        · have : j = Y4.length := by
            have := (List.getElem?_eq_some_iff.mp e1).1
            rw [List.length_append, List.length_singleton] at this
            omega
          subst this
          rw [List.getElem?_append_right (Nat.le_refl _), Nat.sub_self] at e1
          rw [hYl, List.getElem?_append_right (Nat.le_refl _), Nat.sub_self] at e2
          cases e1
          cases e2
          exact fr⟩
      have uf : ∀ {b : Addr} {u : HO}, H19 b = some u → b ≠ f → upd H19 f (.lst (Y4.map V.ref ++ [.ref x])) b = some u := fun e n => by rw [upd_ne n]; exact e
      have hS20 := uf hS19 Sf
      have hDs20 := uf hDs19 Dsf
      have hZ320 := uf hZ3 Z3f
      have K420 : ∀ b u, H4 b = some u → b ≠ p → b ≠ f → upd H19 f (.lst (Y4.map V.ref ++ [.ref x])) b = some u := fun b u e n1 n2 => uf (K419 _ _ e n1) n2
      have hu120 := hu119.keep (H' := upd H19 f (.lst (Y4.map V.ref ++ [.ref x]))) fun b d e z => uf z fun q => by rw [q, hY4] at z; cases z
      generalize upd H19 f _ = H20 at W20 F20 hS20 hDs20 hZ320 K420 hu120 ⊢
      clear e20 uf
      refine ⟨_, rfl, ?_⟩
      refine ⟨_, rfl, Ds, rfl, ⟨_, SqL.of (hDs20)⟩, fun E4 nE4 => ?_⟩
      refine lc_list (K := K) (a := Ds) (xs := us1) (fun j H' => Same H20 H' ∧ H' E4 = some (.lst (numV (sc.take j)))) ⟨same_upd nE4, upd_same⟩ (fun j H' _ q => SqL.of (q.1 _ _ (hDs20))) ?_ ?_
      · rintro j v Hj hv ⟨sj, ej⟩
        obtain ⟨ob, ho, hvo⟩ := ((hu120).same sj).at hv
        rw [List.getElem?_map] at ho
        obtain ⟨n', hn', rfl⟩ := Option.map_eq_some_iff.mp ho
        obtain ⟨ra, rd, rfl, hra⟩ := hvo
        refine ⟨rfl, _, rfl, ra, A.Ref, rd, _, _, rfl, hra, L.c_Ref.cl, L.n_Ref_number, lk_hit, _, ej, ?_, My.Same.put sj nE4, ?_⟩
        · rw [numV_len, List.length_take]
          exact Nat.lt_of_le_of_lt (m := 100) (by omega) (by decide)
        · rw [upd_same, List.take_add_one, hn']
          exact congrArg (fun l => Option.some (HO.lst l)) (numV_app _ [n'])
      rintro H21 ⟨s4, e4⟩
      rw [ul1, List.take_length] at e4
      have sl := scopes_le fs
      refine ⟨S, E4, _, _, rfl, rfl, s4 _ _ hS20, e4, cat (by omega), fun Z4 nZ4 => ?_⟩
      have t4 := s4.trans (same_upd (o := .lst (numV (scopesL fs) ++ numV sc)) nZ4)
      have hZ4 : upd H21 Z4 (.lst (numV (scopesL fs) ++ numV sc)) Z4 = some (.lst (numV (scopesL fs ++ sc))) := by rw [upd_same, numV_app]
      have nZ40 : H20 Z4 = none := s4.free nZ4
      generalize upd H21 Z4 _ = H22 at t4 hZ4 ⊢
      have Z4p : Z4 ≠ p := fun z => by obtain ⟨v, hv⟩ := W20.dom p (by simp); rw [z, hv] at nZ40; cases nZ40
      have Z4f : Z4 ≠ f := fun z => by obtain ⟨v, hv⟩ := W20.dom f (by simp); rw [z, hv] at nZ40; cases nZ40
      refine ⟨Z3, Z4, fs ++ [⟨sc, ab, inn⟩], _, _, _, _, _, _, _, _, rfl, W20.same t4, F20.kp W.pf (My.Same.keep t4), by rw [List.length_append, fl]; rfl, ?_, ?_, Z3p, Z4p, Z3f, Z4f, ?_, ?_, fun b u e n1 n2 => t4 _ _ (K420 _ _ (K4 b u e n1 n2) n1 n2)⟩
      · rw [roots_snoc]; exact t4 _ _ hZ320
      · rw [scopes_snoc]; exact hZ4
      · intro y hy
        rw [roots_snoc] at hy
        simp only [List.mem_append] at hy
        rcases hy with ((hy | hy) | hy) | hy
        · exact ltR y hy
        · exact c1 y hy
        · exact c2 y hy
        · exact c3 y hy
      · intro y hy
        rw [scopes_snoc] at hy
        rcases List.mem_append.mp hy with hy | hy
        · exact ltS y hy
        · exact c1 y hy
    · rintro σ H4 ⟨R, S, fs, y6, y7, y8, y9, y10, y11, y12, y13, rfl, W4, F4, fl, hR4, hS4, Rp, Sp, Rf, Sf, ltR, ltS, K4⟩
      refine ⟨_, rfl, _, rfl, (by show 2 ≤ sizeLine; decide), fun T nT => ?_⟩
      have sT := same_upd (o := .tup [.ref R, .ref S]) nT
      obtain ⟨v4, hv4⟩ := W4.dom p (by simp)
      refine q _ T R S fs (W4.same sT) ?_ (by omega) ltR ltS upd_same (sT _ _ hR4) (sT _ _ hS4) Rp Sp (fun z => by rw [z, hv4] at nT; cases nT) fun b u e np nf => sT _ _ (K4 b u e np nf)
      exact F4.kp W.pf (My.Same.keep sT)
end
end My
namespace My
open PySem L2 XV
open C8 (pss_cut tCut cutS_slice pe_gc)
/-- a list of numbers, as data -/
def numP (l : List Nat) : PyData := .list (l.map fun n => .int ((n : Nat) : Int))
theorem dpA_num {K : PySem.W.Frag} {H : Hp} : ∀ l : List Nat, DpAll K H (numV l) (l.map fun n => PyData.int ((n : Nat) : Int))
  | [] => .nil
  | _ :: r => .cons (.int _) (dpA_num r)
theorem dp_num {K : PySem.W.Frag} {H : Hp} {r : Addr} {l : List Nat} (h : H r = some (.lst (numV l))) : Dp K H (.ref r) (numP l) := .lst (SqL.of h) (dpA_num l)
theorem all_num : ∀ l : List Nat, PyData.canLayAll0 (l.map fun n => PyData.int ((n : Nat) : Int)) = true ∧ PyData.depthAll (l.map fun n => PyData.int ((n : Nat) : Int)) ≤ 1
  | [] => by simp [PyData.canLayAll0, PyData.depthAll]
  | _ :: r => by
    obtain ⟨h1, h2⟩ := all_num r
    simp [PyData.canLayAll0, PyData.depthAll, PyData.canLay0, PyData.depth, h1]
    omega
theorem shaped_num (l : List Nat) (h : l.length ≤ 1000) : SeqAt.shaped (numP l) = true := by
  obtain ⟨h1, h2⟩ := all_num l
  unfold SeqAt.shaped numP
  simp [PyData.canLay0, PyData.depth, h1]
  omega
theorem eq_num (l : List Nat) : PyData.eqv (numP l) (numP l) = true := SeqAt.eqv_refl _ (by
  obtain ⟨h1, h2⟩ := all_num l
  unfold numP
  simp [PyData.canLay0, h1])
section
variable {P : Program} {w : World} {K : PySem.W.Frag} {mg : Str → Option Value} {base : Heap} {A : Ads}
theorem way_short {g : List (List Nat)} {S : List Nat} {n : Nat} {p : List Nat} (lt : ∀ x ∈ S, x < g.length) (hg : ∀ cs ∈ g, ∀ c ∈ cs, c < g.length) (h : wayE (bIt g (binit S) g.length) n = some p) : p.length ≤ g.length := by
  obtain ⟨B0, B1⟩ := binit_ok S
  have lt0 : ∀ x ∈ kys (binit S), x < g.length := fun x hx => lt x ((B1 x).mp hx)
  unfold wayE at h
  obtain ⟨x, hx, rfl⟩ := Option.map_eq_some_iff.mp h
  obtain ⟨i, hi, e⟩ := List.getElem_of_mem (List.mem_of_find?_eq_some hx)
  have := way_len (bIt_ok (g := g) B0 g.length) i x.1 x.2 (by rw [List.getElem?_eq_getElem hi, e])
  have := bIt_len (g := g) B0 lt0 hg g.length
  omega
theorem kit_list_list {K : PySem.W.Frag} : PySem.W.kitOne K (.type "list") (.type "list") = some true := kit_ty (show kitB "list" "list" = some true by decide +kernel)
theorem roots_all {H : Hp} {p t f : Addr} {fs : List F3} (F : Fm A H p t f fs) (le : fs.length ≤ 3) : (rootsL fs).length ≤ 28 := by
  have := roots_len (fs := fs) fun f' hf' => by
    obtain ⟨Y', _, hY', hfr'⟩ := F
    obtain ⟨j, hj, rfl⟩ := List.getElem_of_mem hf'
    have := (hfr' j Y'[j] fs[j] (List.getElem?_eq_getElem (by omega)) (List.getElem?_eq_getElem hj)).le
    unfold F3.all
    rw [List.length_append, List.length_append]
    omega
  omega
def spLaw (K : PySem.W.Frag) : Sp := fun vs H Q _ => ∃ (a : Addr) (ns : List Int), vs = [.ref a] ∧ SqL K H a (ns.map V.int) ∧ ns.length ≤ 63 ∧ ∀ H', Q (.bl true) H'
set_option maxHeartbeats 0 in
theorem ok_law {f : Addr} {fd : FuncData} (F : Fun K "law" "law" s_law f fd) (L : Lib P K mg A) : FnOk P w K mg base CX0 8 f fd ["script"] (spLaw K) := by
  have G_law_begin : FnOk P w K mg base CX0 1 L.law_begin.f L.law_begin.fd ["script", "k"] (spBegin K) := ok_law_begin L
  have G_law_draw : FnOk P w K mg base CX0 2 L.law_draw.f L.law_draw.fd ["state", "many"] (spDraw K) := ok_law_draw L
  have G_law_machine : FnOk P w K mg base CX0 7 L.law_machine.f L.law_machine.fd ["state"] (spMach K A) := ok_law_machine L
  have G_law_frames : FnOk P w K mg base CX0 4 L.law_frames.f L.law_frames.fd ["machine", "state"] (spFrames K A) := ok_law_frames L
  have G_roots_of : FnOk P w K mg base CX0 2 L.roots_of.f L.roots_of.fd ["machine"] (spRoots A) := ok_roots_of L
  have G_reached_from : FnOk P w K mg base CX0 3 L.reached_from.f L.reached_from.fd ["store", "numbers"] (spReach K A) := ok_reached_from L
  have G_lost_objects : FnOk P w K mg base CX0 4 L.lost_objects.f L.lost_objects.fd ["machine"] (spLost A) := ok_lost_objects L
  have G_way_to : FnOk P w K mg base CX0 3 L.way_to.f L.way_to.fd ["machine", "number"] (spWay A) := ok_way_to L
  have G_law_closed : FnOk P w K mg base CX0 3 L.law_closed.f L.law_closed.fd ["store", "numbers"] (spClosed K A) := ok_law_closed L
  have G_law_lengths : FnOk P w K mg base CX0 3 L.law_lengths.f L.law_lengths.fd ["store", "scopes"] (spLens K A) := ok_law_lengths L
  refine F.ok sc_law (fun vs H Q E h => ?_) (fun cdv A' outer s H vs Q E hr h => ?_)
  · obtain ⟨a, ns, rfl, _⟩ := h
    rfl
  · obtain ⟨a, ns, rfl, ha, hns, q⟩ := h
    have hu : (A'.deeper (PyProof.Rows.envOfC ("law" : Str) (defScope s_law) s.heap.objs.size f cdv)).units + 1 < cLine := by
      have := units64 hr
      omega
    refine ⟨_, (pss_cons (ps_for PassesOwn.never rfl (pi_range1 (by rfl) L.z_range (pa_cons (pe_callB (call_min2 rfl) (by rfl) L.z_min (by decide +kernel) (pa_cons pe_int (pa_cons (pe_callB (call_max2 rfl) (by rfl) L.z_max (by decide +kernel) (pa_cons pe_int (pa_cons (pe_callB call_len_seq (by rfl) L.z_len PySem.boot_len (pa_cons (pv 0) pa_nil)) pa_nil))) pa_nil))) pa_nil)) (pg_name (i := 1) sc_law.nd rfl (.inl rfl))
        (pss_cons (ps_set (i := 2) sc_law.nd rfl (.inr rfl) (pe_call G_law_begin (hr.mono (by omega)) (by rfl) L.law_begin.g L.law_begin.F.kp L.law_begin.b .nil pass0 (pa_cons (pv 0) (pa_cons (pe_op op_mul pe_int (pv 1)) pa_nil))))
      (pss_cons (ps_set (i := 3) sc_law.nd rfl (.inl rfl) (pe_call G_law_machine (hr.mono (by omega)) (by rfl) L.law_machine.g L.law_machine.F.kp L.law_machine.b .nil pass0 (pa_cons (pv 2) pa_nil)))
      (pss_cons (ps_set (i := 4) sc_law.nd rfl (.inr rfl) (pe_fld (pv 3) rfl))
      (pss_cons (ps_asg (pe_call G_law_frames (hr.mono (by omega)) (by rfl) L.law_frames.g L.law_frames.F.kp L.law_frames.b .nil pass0 (pa_cons (pv 3) (pa_cons (pv 2) pa_nil))) (pg_tup (by rfl) (pgs_cons (pg_name (i := 5) sc_law.nd rfl (.inl rfl)) (pgs_cons (pg_name (i := 6) sc_law.nd rfl (.inl rfl)) pgs_nil))))
      (pss_cons (ps_set (i := 7) sc_law.nd rfl (.inr rfl) (pe_callB call_len_seq (by rfl) L.z_len PySem.boot_len (pa_cons (pe_fld (pv 4) rfl) pa_nil)))
      (pss_cons (ps_set (i := 8) sc_law.nd rfl (.inl rfl) (pe_call G_roots_of (hr.mono (by omega)) (by rfl) L.roots_of.g L.roots_of.F.kp L.roots_of.b .nil pass0 (pa_cons (pv 3) pa_nil)))
      (pss_cons (ps_if (PW.pt (pw_or (pt_not (pt_val (pe_callB call_isi (by rfl) L.z_isinstance (by decide +kernel) (pa_cons (pv 8) (pa_cons (pe_bltn (v := .ty "list") (by rfl) L.z_list (by decide +kernel) rfl) pa_nil))))) (pw_or1 (pt_cmpR (op_neD (units64 hr)) (pv 8) (pv 5) (nomark _)))))
        (pss_one (ps_ret pe_bl))
        pss_nil)
      (pss_cons (ps_set (i := 9) sc_law.nd rfl (.inr rfl) (pe_lc (own := [("j", 13)]) (g := gName 13) (tt := tYes) (by rfl) sc_law.nd (pi_range1 (by rfl) L.z_range (pa_cons (pe_call G_law_draw (hr.mono (by omega)) (by rfl) L.law_draw.g L.law_draw.F.kp L.law_draw.b .nil pass0 (pa_cons (pv 2) (pa_cons pe_int pa_nil))) pa_nil)) (blkOk_by (own := [("j", 13)]) (N := ["script", "k", "state", "machine", "store", "roots", "scopes", "many", "told", "numbers", "due", "ways", "number", "j"]) (sc := defScope (top 45)) (by decide +kernel)) (fun _ _ _ _ _ => (pg_name (i := 13) sc_law.nd rfl (.inl rfl))) (fun _ _ _ _ _ => pts_nil) (fun _ _ _ _ _ => (pe_call G_law_draw (hr.mono (by omega)) (by rfl) L.law_draw.g L.law_draw.F.kp L.law_draw.b .nil pass0 (pa_cons (pv 2) (pa_cons (pv 7) pa_nil))))))
      (pss_cons (ps_set (i := 8) sc_law.nd rfl (.inl rfl) (pe_call G_reached_from (hr.mono (by omega)) (by rfl) L.reached_from.g L.reached_from.F.kp L.reached_from.b .nil pass0 (pa_cons (pv 4) (pa_cons (pe_callTy call_list_of (by rfl) L.z_list (by decide +kernel) (pa_cons (pv 9) pa_nil)) pa_nil))))
      (pss_cons (ps_if (PW.pt (pw_or (pt_not (pt_val (pe_callB call_isi (by rfl) L.z_isinstance (by decide +kernel) (pa_cons (pv 8) (pa_cons (pe_bltn (v := .ty "list") (by rfl) L.z_list (by decide +kernel) rfl) pa_nil))))) (pw_or1 (pt_cmpR (op_neD (units64 hr)) (pv 8) (pe_lc (own := [("number", 12)]) (g := gName 12) (by rfl) sc_law.nd (pi_range1 (by rfl) L.z_range (pa_cons (pv 7) pa_nil)) (blkOk_by (own := [("number", 12)]) (N := ["script", "k", "state", "machine", "store", "roots", "scopes", "many", "told", "numbers", "due", "ways", "number", "j"]) (sc := defScope (top 45)) (by decide +kernel)) (fun _ _ _ _ _ => (pg_name (i := 12) sc_law.nd rfl (.inl rfl))) (fun _ _ _ _ _ => pts_one (pt_cmpR (show OpR _ _ (rIn K false) from op_in_seq) (pv 12) (pe_call G_law_closed (hr.mono (by omega)) (by rfl) L.law_closed.g L.law_closed.F.kp L.law_closed.b .nil pass0 (pa_cons (pv 4) (pa_cons (pv 9) pa_nil))) (by rfl))) (fun _ _ _ _ _ => (pv 12))) (nomark _)))))
        (pss_one (ps_ret pe_bl))
        pss_nil)
      (pss_cons (ps_set (i := 10) sc_law.nd rfl (.inr rfl) (pe_call G_law_closed (hr.mono (by omega)) (by rfl) L.law_closed.g L.law_closed.F.kp L.law_closed.b .nil pass0 (pa_cons (pv 4) (pa_cons (pv 5) pa_nil))))
      (pss_cons (ps_set (i := 8) sc_law.nd rfl (.inl rfl) (pe_call G_lost_objects (hr.mono (by omega)) (by rfl) L.lost_objects.g L.lost_objects.F.kp L.lost_objects.b .nil pass0 (pa_cons (pv 3) pa_nil)))
      (pss_cons (ps_if (PW.pt (pw_or (pt_not (pt_val (pe_callB call_isi (by rfl) L.z_isinstance (by decide +kernel) (pa_cons (pv 8) (pa_cons (pe_bltn (v := .ty "list") (by rfl) L.z_list (by decide +kernel) rfl) pa_nil))))) (pw_or1 (pt_cmpR (op_neD (units64 hr)) (pv 8) (pe_lc (own := [("number", 12)]) (g := gName 12) (by rfl) sc_law.nd (pi_range1 (by rfl) L.z_range (pa_cons (pv 7) pa_nil)) (blkOk_by (own := [("number", 12)]) (N := ["script", "k", "state", "machine", "store", "roots", "scopes", "many", "told", "numbers", "due", "ways", "number", "j"]) (sc := defScope (top 45)) (by decide +kernel)) (fun _ _ _ _ _ => (pg_name (i := 12) sc_law.nd rfl (.inl rfl))) (fun _ _ _ _ _ => pts_one (pt_cmpR (show OpR _ _ (rIn K true) from op_notIn_seq) (pv 12) (pv 10) (by rfl))) (fun _ _ _ _ _ => (pv 12))) (nomark _)))))
        (pss_one (ps_ret pe_bl))
        pss_nil)
      (pss_cons (ps_set (i := 11) sc_law.nd rfl (.inl rfl) (pe_call G_law_lengths (hr.mono (by omega)) (by rfl) L.law_lengths.g L.law_lengths.F.kp L.law_lengths.b .nil pass0 (pa_cons (pv 4) (pa_cons (pv 6) pa_nil))))
      (pss_cons (ps_for PassesOwn.never rfl (pi_range1 (by rfl) L.z_range (pa_cons (pv 7) pa_nil)) (pg_name (i := 12) sc_law.nd rfl (.inl rfl))
        (pss_one (ps_if (pt_cmpR (op_neD (units64 hr)) (pe_call G_way_to (hr.mono (by omega)) (by rfl) L.way_to.g L.way_to.F.kp L.way_to.b .nil pass0 (pa_cons (pv 3) (pa_cons (pv 12) pa_nil))) (pe_dget1 hu (pv 11) (pv 12) ⟨by rfl, by rfl, by rfl, by rfl⟩) (nomark _))
        (pss_one (ps_ret pe_bl))
        pss_nil)))
      (pss_one (ps_if (PW.pt (pw_or (pt_cmpR op_ne (pe_callB call_len_seq (by rfl) L.z_len PySem.boot_len (pa_cons (pe_fld (pv 4) rfl) pa_nil)) (pv 7) (nomark _)) (pw_or1 (pt_cmpR (op_neD (units64 hr)) (pe_call G_roots_of (hr.mono (by omega)) (by rfl) L.roots_of.g L.roots_of.F.kp L.roots_of.b .nil pass0 (pa_cons (pv 3) pa_nil)) (pv 5) (nomark _)))))
        (pss_one (ps_ret pe_bl))
        pss_nil))))))))))))))))))
      (pss_one (ps_ret pe_bl))), ?_⟩
    obtain ⟨N, hN, hN3⟩ : ∃ N : Nat, (if (if ((ns.map V.int).length : Int) > 1 then ((ns.map V.int).length : Int) else 1) < 3 then (if ((ns.map V.int).length : Int) > 1 then ((ns.map V.int).length : Int) else 1) else (3 : Int)) = (N : Int) ∧ N ≤ 3 := by
      refine ⟨min 3 (max 1 (ns.map V.int).length), ?_, Nat.min_le_left _ _⟩
      generalize (ns.map V.int).length = z
      split <;> split <;> omega
    refine ⟨_, rfl, a, _, rfl, .inl ha, _, _, rfl, _, _, rfl, (N : Int), by show [V.int _] = [V.int _]; rw [hN], by omega, by omega, for_range (n := N) (fun i σ H' => ∃ (y1 y2 y3 y4 y5 y6 y7 y8 y9 y10 y11 y12 y13 : Option V), σ = [some (.ref a), y1, y2, y3, y4, y5, y6, y7, y8, y9, y10, y11, y12, y13] ∧ SqL K H' a (ns.map V.int)) ⟨none, none, none, none, none, none, none, none, none, none, none, none, none, rfl, ha⟩ ?_ ?_⟩
    · rintro i σ H0 hi ⟨y1, y2, y3, y4, y5, y6, y7, y8, y9, y10, y11, y12, y13, rfl, ha0⟩
      refine ⟨_, rfl, _, rfl, _, _, rfl, rfl, .inl ⟨by omega, by omega⟩, a, ns, _, rfl, ha0, by omega, fun H1 p np s1 st1 => ?_⟩
      refine ⟨_, rfl, a, p, ns, rfl, st1, fun H2 m st t f g W2 gl glt g0 k2 => ?_⟩
      obtain ⟨dm, c, b, pl, hm⟩ := W2.mc
      have hm2 := res_sub _ _ _ _ hm
      refine ⟨_, rfl, m, A.Machine, dm, _, _, rfl, hm2, L.c_Machine.cl, L.n_Machine_store, m_store _ _ _ _ _, ?_⟩
      refine ⟨_, rfl, _, rfl, a, p, ns, m, st, t, f, g, rfl, W2, g0, gl, fun H3 T R S fs W3 F fl ltR ltS hT hR hS Rp Sp Tp K3 => ?_⟩
      have rl := roots_all F fl
      have sl := Nat.le_trans (scopes_le fs) rl
      refine ⟨T, _, rfl, SqT.of hT, rfl, _, _, rfl, _, _, rfl, rfl, ?_⟩
      obtain ⟨ds, o, lm, hso⟩ := W3.so
      obtain ⟨X, hX, hXl, _⟩ := id W3.th
      refine ⟨_, rfl, st, A.Store, ds, _, _, rfl, res_sub _ _ _ _ hso, L.c_Store.cl, L.n_Store_things, st_things _ _ _, t, _, rfl, .inl (SqL.of hX), ?_⟩
      rw [show (X.map V.ref).length = g.length from by rw [List.length_map, hXl]]
      refine ⟨_, rfl, m, st, fs, rfl, W3.mch F fl, fun H4 r4 s4 n4 hr4 => ?_⟩
      refine ⟨_, rfl, .ref r4, .ty "list", _, .type "list", _, rfl, .ty _, .base (.lst hr4), kit_list_list, _, rfl, iteF ?_⟩
      refine ⟨_, rfl, _, rfl, numP (rootsL fs), numP (rootsL fs), dp_num hr4, dp_num (s4 _ _ hR), shaped_num _ (by omega), shaped_num _ (by omega), _, rfl, ?_⟩
      rw [eq_num]
      refine iteF ?_
      have W4 := W3.same s4
      have F4 := F.kp W3.pf (My.Same.keep s4)
      have hR4 := s4 _ _ hR
      have hS4 := s4 _ _ hS
      clear hT hR hS s4 K3 hso hX hXl W3 F hm W2
      refine ⟨_, rfl, a, p, ns, 4, rfl, W4.dr, by decide, by decide, fun H5 i5 k5 st5 j0 j1 => ?_⟩
      obtain ⟨n5, hn5⟩ : ∃ n5 : Nat, i5 = ((n5 : Nat) : Int) := ⟨i5.toNat, by omega⟩
      subst hn5
      refine ⟨_, rfl, by omega, by omega, fun D nD => ?_⟩
      have W5 := W4.kp k5 st5
      have F5 := F4.kp W4.pf k5
      have hR5 := k5 _ _ hR4 Rp
      have hS5 := k5 _ _ hS4 Sp
      obtain ⟨xp, ip, hp5, _, _⟩ := id st5
      have Dp : D ≠ p := fun z => by rw [z, hp5] at nD; cases nD
      refine lc_range (lo := 0) (n := n5) (fun j H' => Keep p H5 H' ∧ StL K H' a p ns ∧ ∃ cs : List Nat, H' D = some (.lst (numV cs)) ∧ cs.length = j ∧ ∀ c ∈ cs, c < g.length) ⟨My.Same.keep (same_upd nD), st5.same (same_upd nD), [], upd_same, rfl, by simp⟩ ?_ ?_
      · rintro j H6 hj ⟨k6, st6, cs, hD6, cl6, cc6⟩
        refine ⟨rfl, _, rfl, _, rfl, a, p, ns, ((g.length : Nat) : Int), rfl, st6, by omega, by omega, fun H7 i7 k7 st7 q0 q1 => ?_⟩
        obtain ⟨n7, hn7⟩ : ∃ n7 : Nat, i7 = ((n7 : Nat) : Int) := ⟨i7.toNat, by omega⟩
        subst hn7
        have hD7 := k7 _ _ hD6 Dp
        have kall : Keep p H5 (upd H7 D (.lst (numV cs ++ [.int ((n7 : Nat) : Int)]))) := fun b u e n => by
          rw [upd_ne (ne_of_none e nD)]
          exact k7 _ _ (k6 _ _ e n) n
        refine ⟨_, hD7, ?_, kall, ?_, cs ++ [n7], ?_, by simp [cl6], fun c hc => ?_⟩
        · rw [numV_len]
          exact Nat.lt_of_le_of_lt (m := 100) (by omega) (by decide)
        · obtain ⟨x7, i7', hp7, h07, _⟩ := st7
          exact StL.ofK st5 kall (by rw [upd_ne Dp.symm]; exact hp7) h07
        · rw [upd_same]
          exact congrArg (fun l => Option.some (HO.lst l)) (numV_app _ [n7])
        · rcases List.mem_append.mp hc with z | z
          · exact cc6 c z
          · rw [List.mem_singleton.mp z]; omega
      rintro H6 ⟨k6, st6, cs, hD6, cl6, cc6⟩
      have W6 := W5.kp k6 st6
      have F6 := F5.kp W5.pf k6
      have hR6 := k6 _ _ hR5 Rp
      have hS6 := k6 _ _ hS5 Sp
      clear k5 k6 hR5 hS5 hR4 hS4 W5 F5 W4 F4 hp5 st5 st6 nD
      refine ⟨_, rfl, _, rfl, D, _, rfl, .inl (SqL.of hD6), fun l nl => ?_⟩
      have s7 := same_upd (o := .lst (numV cs)) nl
      have W7 := W6.same s7
      refine ⟨st, l, g, cs, rfl, W7.gr glt (by omega), SqL.of upd_same, by omega, cc6, fun H7 r7 R7 t7 n7 hR7 nd7 hr7 => ?_⟩
      have s67 := s7.trans t7
      clear W7 t7 s7
      have W7 := W6.same s67
      have F7 := F6.kp W6.pf (My.Same.keep s67)
      have hD7 := s67 _ _ hD6
      refine ⟨_, rfl, .ref r7, .ty "list", _, .type "list", _, rfl, .ty _, .base (.lst hr7), kit_list_list, _, rfl, iteF ?_⟩
      refine ⟨_, rfl, _, rfl, ((g.length : Nat) : Int), rfl, by omega, by omega, fun Z nZ => ?_⟩
      refine lc_range (lo := 0) (n := g.length) (fun i H' => Same H7 H' ∧ H' Z = some (.lst (numV (below i fun x => decide (x ∈ R7))))) ⟨same_upd nZ, upd_same⟩ ?_ ?_
      · rintro j H8 hj ⟨s8, hZ8⟩
        rw [Int.zero_add, below_succ]
        refine ⟨rfl, _, rfl, _, rfl, _, rfl, st, D, g, cs, rfl, (W7.same s8).gr glt (by omega), SqL.of (s8 _ _ hD7), by omega, cc6, fun H9 r9 R9 s9 n9 hR9 le9 hr9 => ?_⟩
        have bl := below_len j fun x => decide (x ∈ R7)
        have hZ9 := s9 _ _ hZ8
        refine ⟨r9, _, rfl, .inl (SqL.of hr9), rfl, numV_flat _, _, rfl, ?_⟩
        rw [inV_num, show decide (j ∈ R9) = decide (j ∈ R7) from by rw [Bool.eq_iff_iff, decide_eq_true_eq, decide_eq_true_eq, hR9, hR7]]
        by_cases hm : j ∈ R7
        · rw [decide_eq_true hm, if_pos rfl]
          refine iteT ⟨_, rfl, _, hZ9, ?_, My.Same.put (s8.trans s9) nZ, ?_⟩
          · rw [numV_len]
            exact Nat.lt_of_le_of_lt (m := 100) (by omega) (by decide)
          · rw [upd_same]
            exact congrArg (fun l => Option.some (HO.lst l)) (numV_app _ [j])
        · rw [decide_eq_false hm, if_neg (by decide), List.append_nil]
          exact iteF ⟨s8.trans s9, hZ9⟩
      rintro H8 ⟨s8, hZ8⟩
      have b7 := below_len g.length fun x => decide (x ∈ R7)
      refine ⟨numP _, numP _, dp_num (s8 _ _ hr7), dp_num hZ8, shaped_num _ (by omega), shaped_num _ (by omega), _, rfl, ?_⟩
      rw [eq_num]
      refine iteF ?_
      have s68 := s67.trans s8
      clear W7 F7 hD7
      have W8 := W6.same s68
      have F8 := F6.kp W6.pf (My.Same.keep s68)
      have hR8 := s68 _ _ hR6
      have hS8 := s68 _ _ hS6
      refine ⟨_, rfl, _, rfl, st, R, g, rootsL fs, rfl, W8.gr glt (by omega), SqL.of hR8, by omega, ltR, fun H9 r9 R9 s9 n9 hR9 le9 hr9 => ?_⟩
      have W9 := W8.same s9
      have F9 := F8.kp W8.pf (My.Same.keep s9)
      refine ⟨_, rfl, m, st, g, fs, rfl, W9.mch F9 fl, W9.gr glt (by omega), ltR, fun H10 r10 R10 s10 n10 hR10 hr10 => ?_⟩
      have hr9' := s10 _ _ hr9
      have W10 := W9.same s10
      have F10 := F9.kp W9.pf (My.Same.keep s10)
      refine ⟨_, rfl, .ref r10, .ty "list", _, .type "list", _, rfl, .ty _, .base (.lst hr10), kit_list_list, _, rfl, iteF ?_⟩
      refine ⟨_, rfl, _, rfl, ((g.length : Nat) : Int), rfl, by omega, by omega, fun Y nY => ?_⟩
      refine lc_range (lo := 0) (n := g.length) (fun i H' => Same H10 H' ∧ H' Y = some (.lst (numV (below i fun x => !decide (x ∈ R10))))) ⟨same_upd nY, upd_same⟩ ?_ ?_
      · rintro j H11 hj ⟨s11, hY11⟩
        rw [Int.zero_add, below_succ]
        have bl := below_len j fun x => !decide (x ∈ R10)
        refine ⟨rfl, _, rfl, _, rfl, r9, _, rfl, .inl (SqL.of (s11 _ _ hr9')), rfl, numV_flat _, _, rfl, ?_⟩
        rw [inV_num, show decide (j ∈ R9) = decide (j ∈ R10) from by rw [Bool.eq_iff_iff, decide_eq_true_eq, decide_eq_true_eq, hR9, hR10]]
        by_cases hm : j ∈ R10
        · rw [decide_eq_true hm]
          exact iteF ⟨s11, by rw [hY11]; simp⟩
        · rw [decide_eq_false hm]
          refine iteT ⟨_, rfl, _, hY11, ?_, My.Same.put s11 nY, ?_⟩
          · rw [numV_len]
            exact Nat.lt_of_le_of_lt (m := 100) (by omega) (by decide)
          · rw [upd_same]
            exact congrArg (fun l => Option.some (HO.lst l)) (numV_app _ [j])
      rintro H11 ⟨s11, hY11⟩
      have b10 := below_len g.length fun x => !decide (x ∈ R10)
      refine ⟨numP _, numP _, dp_num (s11 _ _ hr10), dp_num hY11, shaped_num _ (by omega), shaped_num _ (by omega), _, rfl, ?_⟩
      rw [eq_num]
      refine iteF ?_
      have W11 := W10.same s11
      have F11 := F10.kp W10.pf (My.Same.keep s11)
      have s811 := (s9.trans s10).trans s11
      have hR11 := s811 _ _ hR8
      have hS11 := s811 _ _ hS8
      clear W8 W9 W10 F8 F9 F10
      refine ⟨_, rfl, _, rfl, st, S, g, scopesL fs, rfl, W11.gr glt (by omega), SqL.of hS11, by omega, ltS, fun H12 Dw O kvs s12 hDw wd => ?_⟩
      have W12 := W11.same s12
      have F12 := F11.kp W11.pf (My.Same.keep s12)
      have hR12 := s12 _ _ hR11
      refine ⟨_, rfl, ((g.length : Nat) : Int), rfl, by omega, by omega, for_range (n := g.length) (fun j σ H' => ∃ (z12 z13 : Option V), σ = [some (.ref a), some (.int (0 + ((i : Nat) : Int))), some (.ref p), some (.ref m), some (.ref st), some (.ref R), some (.ref S), some (.int ((g.length : Nat) : Int)), some (.ref r10), some (.ref D), some (.ref r9), some (.ref Dw), z12, z13] ∧ Same H12 H') ⟨_, _, rfl, fun _ _ e => e⟩ ?_ ?_⟩
      · rintro j σ H13 hj ⟨z12, z13, rfl, s13⟩
        rw [Int.zero_add]
        refine ⟨_, rfl, _, rfl, m, st, g, fs, j, rfl, (W12.same s13).mch (F12.kp W12.pf (My.Same.keep s13)) fl, (W12.same s13).gr glt (by omega), ltS, fun H14 v s14 hv => ?_⟩
        have s1214 := s13.trans s14
        have wd14 := wd.keep (H' := H14) fun b xs _ e => s1214 _ _ e
        refine ⟨_, rfl, Dw, rfl, .inl ⟨_, .inl (s1214 _ _ hDw)⟩, _, rfl, _, DGet.k (k := Sum.inl ((j : Nat) : Int)) (s1214 _ _ hDw), ?_⟩
        rcases wd14.val (n := j) with ⟨e1, e2⟩ | ⟨pw, aw, e1, e2, _, e4⟩
        · rw [e1] at hv
          rw [e2]
          have hv : v = .non := hv
          subst hv
          refine ⟨.none, .none, .non, .non, by decide, by decide, _, rfl, ?_⟩
          exact iteF ⟨_, _, rfl, s1214⟩
        · rw [e1] at hv
          rw [e2]
          obtain ⟨rw_, rfl, hrw⟩ := hv
          have pl2 : pw.length ≤ 1000 := by
            have := way_short ltS glt e1
            omega
          refine ⟨numP pw, numP pw, dp_num hrw, dp_num e4, shaped_num _ pl2, shaped_num _ pl2, _, rfl, ?_⟩
          rw [eq_num]
          exact iteF ⟨_, _, rfl, s1214⟩
      · rintro σ H13 ⟨z12, z13, rfl, s13⟩
        have W13 := W12.same s13
        have F13 := F12.kp W12.pf (My.Same.keep s13)
        have hR13 := s13 _ _ hR12
        obtain ⟨ds', o', lm', hso'⟩ := W13.so
        obtain ⟨X', hX', hXl', _⟩ := id W13.th
        refine ⟨_, rfl, st, A.Store, ds', _, _, rfl, res_sub _ _ _ _ hso', L.c_Store.cl, L.n_Store_things, st_things _ _ _, t, _, rfl, .inl (SqL.of hX'), _, rfl, rfl, _, rfl, ifF (by rw [List.length_map, hXl']; simp) ?_⟩
        refine ⟨_, rfl, m, st, fs, rfl, W13.mch F13 fl, fun H14 r14 s14 n14 hr14 => ?_⟩
        refine ⟨_, rfl, numP (rootsL fs), numP (rootsL fs), dp_num hr14, dp_num (s14 _ _ hR13), shaped_num _ (by omega), shaped_num _ (by omega), _, rfl, ?_⟩
        rw [eq_num]
        refine iteF ?_
        obtain ⟨_, _, _, _, hsq⟩ := (W13.same s14).dr
        exact ⟨_, _, _, _, _, _, _, _, _, _, _, _, _, rfl, hsq⟩
    · rintro σ H0 _
      exact q H0
end
end My
namespace My
open PySem L2 XV
set_option maxHeartbeats 0 in
theorem all_mk {l : PySem.W.OpenLaw} {w : World} {K : PySem.W.Frag} {h : Heap} {mg : Str → Option Value} {fa cRef cParts cTable cInstance cKin cClosure cVariable cCursor cChunk cFrame cStore cMachine a_children_of a_numbers_of a_values_of a_roots_of a_reached_from a_lost_objects a_way_to a_way_back a_law_cell a_law_begin a_law_draw a_law_machine a_law_refs a_law_frames a_law_closed a_law_lengths a_law a_Ref_init a_Parts_init a_Instance_init a_Kin_init a_Closure_init a_Variable_init a_Chunk_init dTf_Chunk_init ef_Chunk_init a_Frame_init a_Store_init a_Store_make a_Machine_init : Addr} (X : K.In h) (G : h.Ns mainGlobals mg) (hfa : mg "law" = some (.ref fa))
    {odf_children_of anf_children_of odf_numbers_of anf_numbers_of odf_values_of anf_values_of odf_roots_of anf_roots_of odf_reached_from anf_reached_from odf_lost_objects anf_lost_objects odf_way_to anf_way_to odf_way_back anf_way_back odf_law_cell anf_law_cell odf_law_begin anf_law_begin odf_law_draw anf_law_draw odf_law_machine anf_law_machine odf_law_refs anf_law_refs odf_law_frames anf_law_frames odf_law_closed anf_law_closed odf_law_lengths anf_law_lengths odlaw anlaw odf_Ref_init anf_Ref_init odf_Parts_init anf_Parts_init odf_Instance_init anf_Instance_init odf_Kin_init anf_Kin_init odf_Closure_init anf_Closure_init odf_Variable_init anf_Variable_init odf_Chunk_init anf_Chunk_init ddf_Chunk_init edf_Chunk_init odf_Frame_init anf_Frame_init odf_Store_init anf_Store_init odf_Store_make anf_Store_make odf_Machine_init anf_Machine_init : Option Addr}
    {slf_children_of slf_numbers_of slf_values_of slf_roots_of slf_reached_from slf_lost_objects slf_way_to slf_way_back slf_law_cell slf_law_begin slf_law_draw slf_law_machine slf_law_refs slf_law_frames slf_law_closed slf_law_lengths sllaw slf_Ref_init slf_Parts_init slf_Instance_init slf_Kin_init slf_Closure_init slf_Variable_init slf_Chunk_init dof_Chunk_init eof_Chunk_init slf_Frame_init slf_Store_init slf_Store_make slf_Machine_init : Array (Option Value)}
    {ocf_children_of kVf_children_of dcf_children_of pmf_children_of cdf_children_of ctf_children_of ocf_numbers_of kVf_numbers_of dcf_numbers_of pmf_numbers_of cdf_numbers_of ctf_numbers_of ocf_values_of kVf_values_of dcf_values_of pmf_values_of cdf_values_of ctf_values_of ocf_roots_of kVf_roots_of dcf_roots_of pmf_roots_of cdf_roots_of ctf_roots_of ocf_reached_from kVf_reached_from dcf_reached_from pmf_reached_from cdf_reached_from ctf_reached_from ocf_lost_objects kVf_lost_objects dcf_lost_objects pmf_lost_objects cdf_lost_objects ctf_lost_objects ocf_way_to kVf_way_to dcf_way_to pmf_way_to cdf_way_to ctf_way_to ocf_way_back kVf_way_back dcf_way_back pmf_way_back cdf_way_back ctf_way_back ocf_law_cell kVf_law_cell dcf_law_cell pmf_law_cell cdf_law_cell ctf_law_cell ocf_law_begin kVf_law_begin dcf_law_begin pmf_law_begin cdf_law_begin ctf_law_begin ocf_law_draw kVf_law_draw dcf_law_draw pmf_law_draw cdf_law_draw ctf_law_draw ocf_law_machine kVf_law_machine dcf_law_machine pmf_law_machine cdf_law_machine ctf_law_machine ocf_law_refs kVf_law_refs dcf_law_refs pmf_law_refs cdf_law_refs ctf_law_refs ocf_law_frames kVf_law_frames dcf_law_frames pmf_law_frames cdf_law_frames ctf_law_frames ocf_law_closed kVf_law_closed dcf_law_closed pmf_law_closed cdf_law_closed ctf_law_closed ocf_law_lengths kVf_law_lengths dcf_law_lengths pmf_law_lengths cdf_law_lengths ctf_law_lengths oclaw kVlaw dclaw pmlaw cdlaw ctlaw ocf_Ref_init kVf_Ref_init dcf_Ref_init pmf_Ref_init cdf_Ref_init ctf_Ref_init ocf_Parts_init kVf_Parts_init dcf_Parts_init pmf_Parts_init cdf_Parts_init ctf_Parts_init ocf_Instance_init kVf_Instance_init dcf_Instance_init pmf_Instance_init cdf_Instance_init ctf_Instance_init ocf_Kin_init kVf_Kin_init dcf_Kin_init pmf_Kin_init cdf_Kin_init ctf_Kin_init ocf_Closure_init kVf_Closure_init dcf_Closure_init pmf_Closure_init cdf_Closure_init ctf_Closure_init ocf_Variable_init kVf_Variable_init dcf_Variable_init pmf_Variable_init cdf_Variable_init ctf_Variable_init ocf_Chunk_init kVf_Chunk_init dcf_Chunk_init pmf_Chunk_init cdf_Chunk_init ctf_Chunk_init ocf_Frame_init kVf_Frame_init dcf_Frame_init pmf_Frame_init cdf_Frame_init ctf_Frame_init ocf_Store_init kVf_Store_init dcf_Store_init pmf_Store_init cdf_Store_init ctf_Store_init ocf_Store_make kVf_Store_make dcf_Store_make pmf_Store_make cdf_Store_make ctf_Store_make ocf_Machine_init kVf_Machine_init dcf_Machine_init pmf_Machine_init cdf_Machine_init ctf_Machine_init : Value}
    {dif_Chunk_init eif_Chunk_init : Array Value}
    {dnf_Chunk_init enf_Chunk_init : Nat}
    {tkERROR : Tok}
    (uRef : PySem.W.nsIn K mainGlobals "Ref" = some (some (.ref cRef)))
    (mkRef : PySem.W.makesIn K cRef = true)
    (kcRef : PySem.W.keepIn K (.ref cRef) = true)
    (pgRef : PySem.W.plainGet K cRef Str.empty = true)
    (hdRef : PySem.W.hasDictIn K cRef = true)
    (poRef : PySem.W.plainOver K cRef = true)
    (saRef : PySem.W.findIn K (.ref cRef) "__setattr__" = some (some (.builtin "object.__setattr__")))
    (nRef_number : PySem.W.findIn K (.ref cRef) "number" = some none)
    (hnTy : PySem.W.specialIn K (.builtin "object.__class__") "__get__" = some (some (.builtin "getset_descriptor.__get__")))
    (htTy : PySem.W.takesIn K (.builtin "object.__class__") = some true)
    (haRef : PySem.W.findIn K (.ref cRef) "__class__" = some (some (.builtin "object.__class__")))
    (hmRef : PySem.W.mroIn K cRef (.type "object") = some true)
    (uParts : PySem.W.nsIn K mainGlobals "Parts" = some (some (.ref cParts)))
    (mkParts : PySem.W.makesIn K cParts = true)
    (kcParts : PySem.W.keepIn K (.ref cParts) = true)
    (pgParts : PySem.W.plainGet K cParts Str.empty = true)
    (hdParts : PySem.W.hasDictIn K cParts = true)
    (poParts : PySem.W.plainOver K cParts = true)
    (saParts : PySem.W.findIn K (.ref cParts) "__setattr__" = some (some (.builtin "object.__setattr__")))
    (nParts_held : PySem.W.findIn K (.ref cParts) "held" = some none)
    (haParts : PySem.W.findIn K (.ref cParts) "__class__" = some (some (.builtin "object.__class__")))
    (hmParts : PySem.W.mroIn K cParts (.type "object") = some true)
    (uTable : PySem.W.nsIn K mainGlobals "Table" = some (some (.ref cTable)))
    (mkTable : PySem.W.makesIn K cTable = true)
    (kcTable : PySem.W.keepIn K (.ref cTable) = true)
    (pgTable : PySem.W.plainGet K cTable Str.empty = true)
    (hdTable : PySem.W.hasDictIn K cTable = true)
    (poTable : PySem.W.plainOver K cTable = true)
    (saTable : PySem.W.findIn K (.ref cTable) "__setattr__" = some (some (.builtin "object.__setattr__")))
    (haTable : PySem.W.findIn K (.ref cTable) "__class__" = some (some (.builtin "object.__class__")))
    (hmTable : PySem.W.mroIn K cTable (.type "object") = some true)
    (uInstance : PySem.W.nsIn K mainGlobals "Instance" = some (some (.ref cInstance)))
    (mkInstance : PySem.W.makesIn K cInstance = true)
    (kcInstance : PySem.W.keepIn K (.ref cInstance) = true)
    (pgInstance : PySem.W.plainGet K cInstance Str.empty = true)
    (hdInstance : PySem.W.hasDictIn K cInstance = true)
    (poInstance : PySem.W.plainOver K cInstance = true)
    (saInstance : PySem.W.findIn K (.ref cInstance) "__setattr__" = some (some (.builtin "object.__setattr__")))
    (nInstance_owner : PySem.W.findIn K (.ref cInstance) "owner" = some none)
    (nInstance_named : PySem.W.findIn K (.ref cInstance) "named" = some none)
    (haInstance : PySem.W.findIn K (.ref cInstance) "__class__" = some (some (.builtin "object.__class__")))
    (hmInstance : PySem.W.mroIn K cInstance (.type "object") = some true)
    (uKin : PySem.W.nsIn K mainGlobals "Kin" = some (some (.ref cKin)))
    (mkKin : PySem.W.makesIn K cKin = true)
    (kcKin : PySem.W.keepIn K (.ref cKin) = true)
    (pgKin : PySem.W.plainGet K cKin Str.empty = true)
    (hdKin : PySem.W.hasDictIn K cKin = true)
    (poKin : PySem.W.plainOver K cKin = true)
    (saKin : PySem.W.findIn K (.ref cKin) "__setattr__" = some (some (.builtin "object.__setattr__")))
    (nKin_name : PySem.W.findIn K (.ref cKin) "name" = some none)
    (nKin_parent : PySem.W.findIn K (.ref cKin) "parent" = some none)
    (nKin_methods : PySem.W.findIn K (.ref cKin) "methods" = some none)
    (haKin : PySem.W.findIn K (.ref cKin) "__class__" = some (some (.builtin "object.__class__")))
    (hmKin : PySem.W.mroIn K cKin (.type "object") = some true)
    (uClosure : PySem.W.nsIn K mainGlobals "Closure" = some (some (.ref cClosure)))
    (mkClosure : PySem.W.makesIn K cClosure = true)
    (kcClosure : PySem.W.keepIn K (.ref cClosure) = true)
    (pgClosure : PySem.W.plainGet K cClosure Str.empty = true)
    (hdClosure : PySem.W.hasDictIn K cClosure = true)
    (poClosure : PySem.W.plainOver K cClosure = true)
    (saClosure : PySem.W.findIn K (.ref cClosure) "__setattr__" = some (some (.builtin "object.__setattr__")))
    (nClosure_number : PySem.W.findIn K (.ref cClosure) "number" = some none)
    (nClosure_wanted : PySem.W.findIn K (.ref cClosure) "wanted" = some none)
    (nClosure_scope : PySem.W.findIn K (.ref cClosure) "scope" = some none)
    (haClosure : PySem.W.findIn K (.ref cClosure) "__class__" = some (some (.builtin "object.__class__")))
    (hmClosure : PySem.W.mroIn K cClosure (.type "object") = some true)
    (uVariable : PySem.W.nsIn K mainGlobals "Variable" = some (some (.ref cVariable)))
    (mkVariable : PySem.W.makesIn K cVariable = true)
    (kcVariable : PySem.W.keepIn K (.ref cVariable) = true)
    (pgVariable : PySem.W.plainGet K cVariable Str.empty = true)
    (hdVariable : PySem.W.hasDictIn K cVariable = true)
    (poVariable : PySem.W.plainOver K cVariable = true)
    (saVariable : PySem.W.findIn K (.ref cVariable) "__setattr__" = some (some (.builtin "object.__setattr__")))
    (nVariable_value : PySem.W.findIn K (.ref cVariable) "value" = some none)
    (haVariable : PySem.W.findIn K (.ref cVariable) "__class__" = some (some (.builtin "object.__class__")))
    (hmVariable : PySem.W.mroIn K cVariable (.type "object") = some true)
    (uCursor : PySem.W.nsIn K mainGlobals "Cursor" = some (some (.ref cCursor)))
    (mkCursor : PySem.W.makesIn K cCursor = true)
    (kcCursor : PySem.W.keepIn K (.ref cCursor) = true)
    (pgCursor : PySem.W.plainGet K cCursor Str.empty = true)
    (hdCursor : PySem.W.hasDictIn K cCursor = true)
    (poCursor : PySem.W.plainOver K cCursor = true)
    (saCursor : PySem.W.findIn K (.ref cCursor) "__setattr__" = some (some (.builtin "object.__setattr__")))
    (haCursor : PySem.W.findIn K (.ref cCursor) "__class__" = some (some (.builtin "object.__class__")))
    (hmCursor : PySem.W.mroIn K cCursor (.type "object") = some true)
    (uChunk : PySem.W.nsIn K mainGlobals "Chunk" = some (some (.ref cChunk)))
    (mkChunk : PySem.W.makesIn K cChunk = true)
    (kcChunk : PySem.W.keepIn K (.ref cChunk) = true)
    (pgChunk : PySem.W.plainGet K cChunk Str.empty = true)
    (hdChunk : PySem.W.hasDictIn K cChunk = true)
    (poChunk : PySem.W.plainOver K cChunk = true)
    (saChunk : PySem.W.findIn K (.ref cChunk) "__setattr__" = some (some (.builtin "object.__setattr__")))
    (nChunk_number : PySem.W.findIn K (.ref cChunk) "number" = some none)
    (nChunk_wanted : PySem.W.findIn K (.ref cChunk) "wanted" = some none)
    (nChunk_rows : PySem.W.findIn K (.ref cChunk) "rows" = some none)
    (nChunk_scopes : PySem.W.findIn K (.ref cChunk) "scopes" = some none)
    (haChunk : PySem.W.findIn K (.ref cChunk) "__class__" = some (some (.builtin "object.__class__")))
    (hmChunk : PySem.W.mroIn K cChunk (.type "object") = some true)
    (uFrame : PySem.W.nsIn K mainGlobals "Frame" = some (some (.ref cFrame)))
    (mkFrame : PySem.W.makesIn K cFrame = true)
    (kcFrame : PySem.W.keepIn K (.ref cFrame) = true)
    (pgFrame : PySem.W.plainGet K cFrame Str.empty = true)
    (hdFrame : PySem.W.hasDictIn K cFrame = true)
    (poFrame : PySem.W.plainOver K cFrame = true)
    (saFrame : PySem.W.findIn K (.ref cFrame) "__setattr__" = some (some (.builtin "object.__setattr__")))
    (nFrame_number : PySem.W.findIn K (.ref cFrame) "number" = some none)
    (nFrame_at : PySem.W.findIn K (.ref cFrame) "at" = some none)
    (nFrame_scope : PySem.W.findIn K (.ref cFrame) "scope" = some none)
    (nFrame_stack : PySem.W.findIn K (.ref cFrame) "stack" = some none)
    (nFrame_handlers : PySem.W.findIn K (.ref cFrame) "handlers" = some none)
    (nFrame_made : PySem.W.findIn K (.ref cFrame) "made" = some none)
    (haFrame : PySem.W.findIn K (.ref cFrame) "__class__" = some (some (.builtin "object.__class__")))
    (hmFrame : PySem.W.mroIn K cFrame (.type "object") = some true)
    (uStore : PySem.W.nsIn K mainGlobals "Store" = some (some (.ref cStore)))
    (mkStore : PySem.W.makesIn K cStore = true)
    (kcStore : PySem.W.keepIn K (.ref cStore) = true)
    (pgStore : PySem.W.plainGet K cStore Str.empty = true)
    (hdStore : PySem.W.hasDictIn K cStore = true)
    (poStore : PySem.W.plainOver K cStore = true)
    (saStore : PySem.W.findIn K (.ref cStore) "__setattr__" = some (some (.builtin "object.__setattr__")))
    (nStore_things : PySem.W.findIn K (.ref cStore) "things" = some none)
    (nStore_output : PySem.W.findIn K (.ref cStore) "output" = some none)
    (nStore_lines : PySem.W.findIn K (.ref cStore) "lines" = some none)
    (nStore_taken : PySem.W.findIn K (.ref cStore) "taken" = some none)
    (haStore : PySem.W.findIn K (.ref cStore) "__class__" = some (some (.builtin "object.__class__")))
    (hmStore : PySem.W.mroIn K cStore (.type "object") = some true)
    (uMachine : PySem.W.nsIn K mainGlobals "Machine" = some (some (.ref cMachine)))
    (mkMachine : PySem.W.makesIn K cMachine = true)
    (kcMachine : PySem.W.keepIn K (.ref cMachine) = true)
    (pgMachine : PySem.W.plainGet K cMachine Str.empty = true)
    (hdMachine : PySem.W.hasDictIn K cMachine = true)
    (poMachine : PySem.W.plainOver K cMachine = true)
    (saMachine : PySem.W.findIn K (.ref cMachine) "__setattr__" = some (some (.builtin "object.__setattr__")))
    (nMachine_chunks : PySem.W.findIn K (.ref cMachine) "chunks" = some none)
    (nMachine_by_number : PySem.W.findIn K (.ref cMachine) "by_number" = some none)
    (nMachine_store : PySem.W.findIn K (.ref cMachine) "store" = some none)
    (nMachine_steps : PySem.W.findIn K (.ref cMachine) "steps" = some none)
    (nMachine_frames : PySem.W.findIn K (.ref cMachine) "frames" = some none)
    (nMachine_state : PySem.W.findIn K (.ref cMachine) "state" = some none)
    (nMachine_thrown : PySem.W.findIn K (.ref cMachine) "thrown" = some none)
    (nMachine_places : PySem.W.findIn K (.ref cMachine) "places" = some none)
    (haMachine : PySem.W.findIn K (.ref cMachine) "__class__" = some (some (.builtin "object.__class__")))
    (hmMachine : PySem.W.mroIn K cMachine (.type "object") = some true)
    (af_children_of : PySem.W.nsIn K mainGlobals "children_of" = some (some (.ref a_children_of)))
    (lf_children_of : K.lookup a_children_of = some ⟨ocf_children_of, odf_children_of, .func (PySem.W.fnOf "children_of" "children_of" (defArgs s_children_of) (defBody s_children_of) (defScope s_children_of) .none kVf_children_of dcf_children_of pmf_children_of anf_children_of cdf_children_of ctf_children_of), slf_children_of⟩)
    (cf_children_of : PySem.W.codeIn K cdf_children_of "children_of" = true)
    (kf_children_of : PySem.W.keepIn K (.ref a_children_of) = true)
    (af_numbers_of : PySem.W.nsIn K mainGlobals "numbers_of" = some (some (.ref a_numbers_of)))
    (lf_numbers_of : K.lookup a_numbers_of = some ⟨ocf_numbers_of, odf_numbers_of, .func (PySem.W.fnOf "numbers_of" "numbers_of" (defArgs s_numbers_of) (defBody s_numbers_of) (defScope s_numbers_of) .none kVf_numbers_of dcf_numbers_of pmf_numbers_of anf_numbers_of cdf_numbers_of ctf_numbers_of), slf_numbers_of⟩)
    (cf_numbers_of : PySem.W.codeIn K cdf_numbers_of "numbers_of" = true)
    (kf_numbers_of : PySem.W.keepIn K (.ref a_numbers_of) = true)
    (af_values_of : PySem.W.nsIn K mainGlobals "values_of" = some (some (.ref a_values_of)))
    (lf_values_of : K.lookup a_values_of = some ⟨ocf_values_of, odf_values_of, .func (PySem.W.fnOf "values_of" "values_of" (defArgs s_values_of) (defBody s_values_of) (defScope s_values_of) .none kVf_values_of dcf_values_of pmf_values_of anf_values_of cdf_values_of ctf_values_of), slf_values_of⟩)
    (cf_values_of : PySem.W.codeIn K cdf_values_of "values_of" = true)
    (kf_values_of : PySem.W.keepIn K (.ref a_values_of) = true)
    (af_roots_of : PySem.W.nsIn K mainGlobals "roots_of" = some (some (.ref a_roots_of)))
    (lf_roots_of : K.lookup a_roots_of = some ⟨ocf_roots_of, odf_roots_of, .func (PySem.W.fnOf "roots_of" "roots_of" (defArgs s_roots_of) (defBody s_roots_of) (defScope s_roots_of) .none kVf_roots_of dcf_roots_of pmf_roots_of anf_roots_of cdf_roots_of ctf_roots_of), slf_roots_of⟩)
    (cf_roots_of : PySem.W.codeIn K cdf_roots_of "roots_of" = true)
    (kf_roots_of : PySem.W.keepIn K (.ref a_roots_of) = true)
    (af_reached_from : PySem.W.nsIn K mainGlobals "reached_from" = some (some (.ref a_reached_from)))
    (lf_reached_from : K.lookup a_reached_from = some ⟨ocf_reached_from, odf_reached_from, .func (PySem.W.fnOf "reached_from" "reached_from" (defArgs s_reached_from) (defBody s_reached_from) (defScope s_reached_from) .none kVf_reached_from dcf_reached_from pmf_reached_from anf_reached_from cdf_reached_from ctf_reached_from), slf_reached_from⟩)
    (cf_reached_from : PySem.W.codeIn K cdf_reached_from "reached_from" = true)
    (kf_reached_from : PySem.W.keepIn K (.ref a_reached_from) = true)
    (af_lost_objects : PySem.W.nsIn K mainGlobals "lost_objects" = some (some (.ref a_lost_objects)))
    (lf_lost_objects : K.lookup a_lost_objects = some ⟨ocf_lost_objects, odf_lost_objects, .func (PySem.W.fnOf "lost_objects" "lost_objects" (defArgs s_lost_objects) (defBody s_lost_objects) (defScope s_lost_objects) .none kVf_lost_objects dcf_lost_objects pmf_lost_objects anf_lost_objects cdf_lost_objects ctf_lost_objects), slf_lost_objects⟩)
    (cf_lost_objects : PySem.W.codeIn K cdf_lost_objects "lost_objects" = true)
    (kf_lost_objects : PySem.W.keepIn K (.ref a_lost_objects) = true)
    (af_way_to : PySem.W.nsIn K mainGlobals "way_to" = some (some (.ref a_way_to)))
    (lf_way_to : K.lookup a_way_to = some ⟨ocf_way_to, odf_way_to, .func (PySem.W.fnOf "way_to" "way_to" (defArgs s_way_to) (defBody s_way_to) (defScope s_way_to) .none kVf_way_to dcf_way_to pmf_way_to anf_way_to cdf_way_to ctf_way_to), slf_way_to⟩)
    (cf_way_to : PySem.W.codeIn K cdf_way_to "way_to" = true)
    (kf_way_to : PySem.W.keepIn K (.ref a_way_to) = true)
    (af_way_back : PySem.W.nsIn K mainGlobals "way_back" = some (some (.ref a_way_back)))
    (lf_way_back : K.lookup a_way_back = some ⟨ocf_way_back, odf_way_back, .func (PySem.W.fnOf "way_back" "way_back" (defArgs s_way_back) (defBody s_way_back) (defScope s_way_back) .none kVf_way_back dcf_way_back pmf_way_back anf_way_back cdf_way_back ctf_way_back), slf_way_back⟩)
    (cf_way_back : PySem.W.codeIn K cdf_way_back "way_back" = true)
    (kf_way_back : PySem.W.keepIn K (.ref a_way_back) = true)
    (af_law_cell : PySem.W.nsIn K mainGlobals "_law_cell" = some (some (.ref a_law_cell)))
    (lf_law_cell : K.lookup a_law_cell = some ⟨ocf_law_cell, odf_law_cell, .func (PySem.W.fnOf "_law_cell" "_law_cell" (defArgs s_law_cell) (defBody s_law_cell) (defScope s_law_cell) .none kVf_law_cell dcf_law_cell pmf_law_cell anf_law_cell cdf_law_cell ctf_law_cell), slf_law_cell⟩)
    (cf_law_cell : PySem.W.codeIn K cdf_law_cell "_law_cell" = true)
    (kf_law_cell : PySem.W.keepIn K (.ref a_law_cell) = true)
    (af_law_begin : PySem.W.nsIn K mainGlobals "_law_begin" = some (some (.ref a_law_begin)))
    (lf_law_begin : K.lookup a_law_begin = some ⟨ocf_law_begin, odf_law_begin, .func (PySem.W.fnOf "_law_begin" "_law_begin" (defArgs s_law_begin) (defBody s_law_begin) (defScope s_law_begin) .none kVf_law_begin dcf_law_begin pmf_law_begin anf_law_begin cdf_law_begin ctf_law_begin), slf_law_begin⟩)
    (cf_law_begin : PySem.W.codeIn K cdf_law_begin "_law_begin" = true)
    (kf_law_begin : PySem.W.keepIn K (.ref a_law_begin) = true)
    (af_law_draw : PySem.W.nsIn K mainGlobals "_law_draw" = some (some (.ref a_law_draw)))
    (lf_law_draw : K.lookup a_law_draw = some ⟨ocf_law_draw, odf_law_draw, .func (PySem.W.fnOf "_law_draw" "_law_draw" (defArgs s_law_draw) (defBody s_law_draw) (defScope s_law_draw) .none kVf_law_draw dcf_law_draw pmf_law_draw anf_law_draw cdf_law_draw ctf_law_draw), slf_law_draw⟩)
    (cf_law_draw : PySem.W.codeIn K cdf_law_draw "_law_draw" = true)
    (kf_law_draw : PySem.W.keepIn K (.ref a_law_draw) = true)
    (af_law_machine : PySem.W.nsIn K mainGlobals "_law_machine" = some (some (.ref a_law_machine)))
    (lf_law_machine : K.lookup a_law_machine = some ⟨ocf_law_machine, odf_law_machine, .func (PySem.W.fnOf "_law_machine" "_law_machine" (defArgs s_law_machine) (defBody s_law_machine) (defScope s_law_machine) .none kVf_law_machine dcf_law_machine pmf_law_machine anf_law_machine cdf_law_machine ctf_law_machine), slf_law_machine⟩)
    (cf_law_machine : PySem.W.codeIn K cdf_law_machine "_law_machine" = true)
    (kf_law_machine : PySem.W.keepIn K (.ref a_law_machine) = true)
    (af_law_refs : PySem.W.nsIn K mainGlobals "_law_refs" = some (some (.ref a_law_refs)))
    (lf_law_refs : K.lookup a_law_refs = some ⟨ocf_law_refs, odf_law_refs, .func (PySem.W.fnOf "_law_refs" "_law_refs" (defArgs s_law_refs) (defBody s_law_refs) (defScope s_law_refs) .none kVf_law_refs dcf_law_refs pmf_law_refs anf_law_refs cdf_law_refs ctf_law_refs), slf_law_refs⟩)
    (cf_law_refs : PySem.W.codeIn K cdf_law_refs "_law_refs" = true)
    (kf_law_refs : PySem.W.keepIn K (.ref a_law_refs) = true)
    (af_law_frames : PySem.W.nsIn K mainGlobals "_law_frames" = some (some (.ref a_law_frames)))
    (lf_law_frames : K.lookup a_law_frames = some ⟨ocf_law_frames, odf_law_frames, .func (PySem.W.fnOf "_law_frames" "_law_frames" (defArgs s_law_frames) (defBody s_law_frames) (defScope s_law_frames) .none kVf_law_frames dcf_law_frames pmf_law_frames anf_law_frames cdf_law_frames ctf_law_frames), slf_law_frames⟩)
    (cf_law_frames : PySem.W.codeIn K cdf_law_frames "_law_frames" = true)
    (kf_law_frames : PySem.W.keepIn K (.ref a_law_frames) = true)
    (af_law_closed : PySem.W.nsIn K mainGlobals "_law_closed" = some (some (.ref a_law_closed)))
    (lf_law_closed : K.lookup a_law_closed = some ⟨ocf_law_closed, odf_law_closed, .func (PySem.W.fnOf "_law_closed" "_law_closed" (defArgs s_law_closed) (defBody s_law_closed) (defScope s_law_closed) .none kVf_law_closed dcf_law_closed pmf_law_closed anf_law_closed cdf_law_closed ctf_law_closed), slf_law_closed⟩)
    (cf_law_closed : PySem.W.codeIn K cdf_law_closed "_law_closed" = true)
    (kf_law_closed : PySem.W.keepIn K (.ref a_law_closed) = true)
    (af_law_lengths : PySem.W.nsIn K mainGlobals "_law_lengths" = some (some (.ref a_law_lengths)))
    (lf_law_lengths : K.lookup a_law_lengths = some ⟨ocf_law_lengths, odf_law_lengths, .func (PySem.W.fnOf "_law_lengths" "_law_lengths" (defArgs s_law_lengths) (defBody s_law_lengths) (defScope s_law_lengths) .none kVf_law_lengths dcf_law_lengths pmf_law_lengths anf_law_lengths cdf_law_lengths ctf_law_lengths), slf_law_lengths⟩)
    (cf_law_lengths : PySem.W.codeIn K cdf_law_lengths "_law_lengths" = true)
    (kf_law_lengths : PySem.W.keepIn K (.ref a_law_lengths) = true)
    (alaw : PySem.W.nsIn K mainGlobals "law" = some (some (.ref a_law)))
    (llaw : K.lookup a_law = some ⟨oclaw, odlaw, .func (PySem.W.fnOf "law" "law" (defArgs s_law) (defBody s_law) (defScope s_law) .none kVlaw dclaw pmlaw anlaw cdlaw ctlaw), sllaw⟩)
    (claw : PySem.W.codeIn K cdlaw "law" = true)
    (klaw : PySem.W.keepIn K (.ref a_law) = true)
    (af_Ref_init : PySem.W.findIn K (.ref cRef) "__init__" = some (some (.ref a_Ref_init)))
    (if_Ref_init : PySem.W.isFn K (.ref a_Ref_init) = true)
    (lf_Ref_init : K.lookup a_Ref_init = some ⟨ocf_Ref_init, odf_Ref_init, .func (PySem.W.fnOf "__init__" "Ref.__init__" (defArgs s_Ref_init) (defBody s_Ref_init) (defScope s_Ref_init) .none kVf_Ref_init dcf_Ref_init pmf_Ref_init anf_Ref_init cdf_Ref_init ctf_Ref_init), slf_Ref_init⟩)
    (cf_Ref_init : PySem.W.codeIn K cdf_Ref_init "Ref.__init__" = true)
    (kf_Ref_init : PySem.W.keepIn K (.ref a_Ref_init) = true)
    (af_Parts_init : PySem.W.findIn K (.ref cParts) "__init__" = some (some (.ref a_Parts_init)))
    (if_Parts_init : PySem.W.isFn K (.ref a_Parts_init) = true)
    (lf_Parts_init : K.lookup a_Parts_init = some ⟨ocf_Parts_init, odf_Parts_init, .func (PySem.W.fnOf "__init__" "Parts.__init__" (defArgs s_Parts_init) (defBody s_Parts_init) (defScope s_Parts_init) .none kVf_Parts_init dcf_Parts_init pmf_Parts_init anf_Parts_init cdf_Parts_init ctf_Parts_init), slf_Parts_init⟩)
    (cf_Parts_init : PySem.W.codeIn K cdf_Parts_init "Parts.__init__" = true)
    (kf_Parts_init : PySem.W.keepIn K (.ref a_Parts_init) = true)
    (af_Instance_init : PySem.W.findIn K (.ref cInstance) "__init__" = some (some (.ref a_Instance_init)))
    (if_Instance_init : PySem.W.isFn K (.ref a_Instance_init) = true)
    (lf_Instance_init : K.lookup a_Instance_init = some ⟨ocf_Instance_init, odf_Instance_init, .func (PySem.W.fnOf "__init__" "Instance.__init__" (defArgs s_Instance_init) (defBody s_Instance_init) (defScope s_Instance_init) .none kVf_Instance_init dcf_Instance_init pmf_Instance_init anf_Instance_init cdf_Instance_init ctf_Instance_init), slf_Instance_init⟩)
    (cf_Instance_init : PySem.W.codeIn K cdf_Instance_init "Instance.__init__" = true)
    (kf_Instance_init : PySem.W.keepIn K (.ref a_Instance_init) = true)
    (af_Kin_init : PySem.W.findIn K (.ref cKin) "__init__" = some (some (.ref a_Kin_init)))
    (if_Kin_init : PySem.W.isFn K (.ref a_Kin_init) = true)
    (lf_Kin_init : K.lookup a_Kin_init = some ⟨ocf_Kin_init, odf_Kin_init, .func (PySem.W.fnOf "__init__" "Kin.__init__" (defArgs s_Kin_init) (defBody s_Kin_init) (defScope s_Kin_init) .none kVf_Kin_init dcf_Kin_init pmf_Kin_init anf_Kin_init cdf_Kin_init ctf_Kin_init), slf_Kin_init⟩)
    (cf_Kin_init : PySem.W.codeIn K cdf_Kin_init "Kin.__init__" = true)
    (kf_Kin_init : PySem.W.keepIn K (.ref a_Kin_init) = true)
    (af_Closure_init : PySem.W.findIn K (.ref cClosure) "__init__" = some (some (.ref a_Closure_init)))
    (if_Closure_init : PySem.W.isFn K (.ref a_Closure_init) = true)
    (lf_Closure_init : K.lookup a_Closure_init = some ⟨ocf_Closure_init, odf_Closure_init, .func (PySem.W.fnOf "__init__" "Closure.__init__" (defArgs s_Closure_init) (defBody s_Closure_init) (defScope s_Closure_init) .none kVf_Closure_init dcf_Closure_init pmf_Closure_init anf_Closure_init cdf_Closure_init ctf_Closure_init), slf_Closure_init⟩)
    (cf_Closure_init : PySem.W.codeIn K cdf_Closure_init "Closure.__init__" = true)
    (kf_Closure_init : PySem.W.keepIn K (.ref a_Closure_init) = true)
    (af_Variable_init : PySem.W.findIn K (.ref cVariable) "__init__" = some (some (.ref a_Variable_init)))
    (if_Variable_init : PySem.W.isFn K (.ref a_Variable_init) = true)
    (lf_Variable_init : K.lookup a_Variable_init = some ⟨ocf_Variable_init, odf_Variable_init, .func (PySem.W.fnOf "__init__" "Variable.__init__" (defArgs s_Variable_init) (defBody s_Variable_init) (defScope s_Variable_init) .none kVf_Variable_init dcf_Variable_init pmf_Variable_init anf_Variable_init cdf_Variable_init ctf_Variable_init), slf_Variable_init⟩)
    (cf_Variable_init : PySem.W.codeIn K cdf_Variable_init "Variable.__init__" = true)
    (kf_Variable_init : PySem.W.keepIn K (.ref a_Variable_init) = true)
    (af_Chunk_init : PySem.W.findIn K (.ref cChunk) "__init__" = some (some (.ref a_Chunk_init)))
    (if_Chunk_init : PySem.W.isFn K (.ref a_Chunk_init) = true)
    (lf_Chunk_init : K.lookup a_Chunk_init = some ⟨ocf_Chunk_init, odf_Chunk_init, .func (PySem.W.fnOf "__init__" "Chunk.__init__" (defArgs s_Chunk_init) (defBody s_Chunk_init) (defScope s_Chunk_init) (.ref dTf_Chunk_init) kVf_Chunk_init dcf_Chunk_init pmf_Chunk_init anf_Chunk_init cdf_Chunk_init ctf_Chunk_init), slf_Chunk_init⟩)
    (cf_Chunk_init : PySem.W.codeIn K cdf_Chunk_init "Chunk.__init__" = true)
    (kf_Chunk_init : PySem.W.keepIn K (.ref a_Chunk_init) = true)
    (dlf_Chunk_init : K.lookup dTf_Chunk_init = some ⟨.type "tuple", ddf_Chunk_init, .seq dif_Chunk_init dnf_Chunk_init, dof_Chunk_init⟩)
    (dvf_Chunk_init : Vals [.ref ef_Chunk_init] dif_Chunk_init.toList)
    (elf_Chunk_init : K.lookup ef_Chunk_init = some ⟨.type "tuple", edf_Chunk_init, .seq eif_Chunk_init enf_Chunk_init, eof_Chunk_init⟩)
    (evf_Chunk_init : Vals [] eif_Chunk_init.toList)
    (esf_Chunk_init : eif_Chunk_init.size ≤ sizeLine)
    (af_Frame_init : PySem.W.findIn K (.ref cFrame) "__init__" = some (some (.ref a_Frame_init)))
    (if_Frame_init : PySem.W.isFn K (.ref a_Frame_init) = true)
    (lf_Frame_init : K.lookup a_Frame_init = some ⟨ocf_Frame_init, odf_Frame_init, .func (PySem.W.fnOf "__init__" "Frame.__init__" (defArgs s_Frame_init) (defBody s_Frame_init) (defScope s_Frame_init) .none kVf_Frame_init dcf_Frame_init pmf_Frame_init anf_Frame_init cdf_Frame_init ctf_Frame_init), slf_Frame_init⟩)
    (cf_Frame_init : PySem.W.codeIn K cdf_Frame_init "Frame.__init__" = true)
    (kf_Frame_init : PySem.W.keepIn K (.ref a_Frame_init) = true)
    (af_Store_init : PySem.W.findIn K (.ref cStore) "__init__" = some (some (.ref a_Store_init)))
    (if_Store_init : PySem.W.isFn K (.ref a_Store_init) = true)
    (lf_Store_init : K.lookup a_Store_init = some ⟨ocf_Store_init, odf_Store_init, .func (PySem.W.fnOf "__init__" "Store.__init__" (defArgs s_Store_init) (defBody s_Store_init) (defScope s_Store_init) .none kVf_Store_init dcf_Store_init pmf_Store_init anf_Store_init cdf_Store_init ctf_Store_init), slf_Store_init⟩)
    (cf_Store_init : PySem.W.codeIn K cdf_Store_init "Store.__init__" = true)
    (kf_Store_init : PySem.W.keepIn K (.ref a_Store_init) = true)
    (af_Store_make : PySem.W.findIn K (.ref cStore) "make" = some (some (.ref a_Store_make)))
    (if_Store_make : PySem.W.isFn K (.ref a_Store_make) = true)
    (lf_Store_make : K.lookup a_Store_make = some ⟨ocf_Store_make, odf_Store_make, .func (PySem.W.fnOf "make" "Store.make" (defArgs s_Store_make) (defBody s_Store_make) (defScope s_Store_make) .none kVf_Store_make dcf_Store_make pmf_Store_make anf_Store_make cdf_Store_make ctf_Store_make), slf_Store_make⟩)
    (cf_Store_make : PySem.W.codeIn K cdf_Store_make "Store.make" = true)
    (kf_Store_make : PySem.W.keepIn K (.ref a_Store_make) = true)
    (af_Machine_init : PySem.W.findIn K (.ref cMachine) "__init__" = some (some (.ref a_Machine_init)))
    (if_Machine_init : PySem.W.isFn K (.ref a_Machine_init) = true)
    (lf_Machine_init : K.lookup a_Machine_init = some ⟨ocf_Machine_init, odf_Machine_init, .func (PySem.W.fnOf "__init__" "Machine.__init__" (defArgs s_Machine_init) (defBody s_Machine_init) (defScope s_Machine_init) .none kVf_Machine_init dcf_Machine_init pmf_Machine_init anf_Machine_init cdf_Machine_init ctf_Machine_init), slf_Machine_init⟩)
    (cf_Machine_init : PySem.W.codeIn K cdf_Machine_init "Machine.__init__" = true)
    (kf_Machine_init : PySem.W.keepIn K (.ref a_Machine_init) = true)
    (qERROR : PySem.W.nsIn K mainGlobals "ERROR" = some (some (.int 0 tkERROR)))
    (k_Parts_Variable : PySem.W.kitOne K (.ref cParts) (.ref cVariable) = some false)
    (k_Instance_Variable : PySem.W.kitOne K (.ref cInstance) (.ref cVariable) = some false)
    (k_Instance_Parts : PySem.W.kitOne K (.ref cInstance) (.ref cParts) = some false)
    (k_Instance_Cursor : PySem.W.kitOne K (.ref cInstance) (.ref cCursor) = some false)
    (k_Instance_Table : PySem.W.kitOne K (.ref cInstance) (.ref cTable) = some false)
    (k_Kin_Variable : PySem.W.kitOne K (.ref cKin) (.ref cVariable) = some false)
    (k_Kin_Parts : PySem.W.kitOne K (.ref cKin) (.ref cParts) = some false)
    (k_Kin_Cursor : PySem.W.kitOne K (.ref cKin) (.ref cCursor) = some false)
    (k_Kin_Table : PySem.W.kitOne K (.ref cKin) (.ref cTable) = some false)
    (k_Kin_Instance : PySem.W.kitOne K (.ref cKin) (.ref cInstance) = some false)
    (k_Closure_Variable : PySem.W.kitOne K (.ref cClosure) (.ref cVariable) = some false)
    (k_Closure_Parts : PySem.W.kitOne K (.ref cClosure) (.ref cParts) = some false)
    (k_Closure_Cursor : PySem.W.kitOne K (.ref cClosure) (.ref cCursor) = some false)
    (k_Closure_Table : PySem.W.kitOne K (.ref cClosure) (.ref cTable) = some false)
    (k_Closure_Instance : PySem.W.kitOne K (.ref cClosure) (.ref cInstance) = some false)
    (k_Closure_Kin : PySem.W.kitOne K (.ref cClosure) (.ref cKin) = some false)
    (k_Machine_Kin : PySem.W.kitOne K (.ref cMachine) (.ref cKin) = some false)
    (k_Machine_Chunk : PySem.W.kitOne K (.ref cMachine) (.ref cChunk) = some false)
    (k_NoneType_Ref : PySem.W.kitOne K (.type "NoneType") (.ref cRef) = some false)
    (k_int_Ref : PySem.W.kitOne K (.type "int") (.ref cRef) = some false)
    (k_str_Ref : PySem.W.kitOne K (.type "str") (.ref cRef) = some false)
    (zrange : PySem.W.nsIn K mainGlobals "range" = some none)
    (zlen : PySem.W.nsIn K mainGlobals "len" = some none)
    (zint : PySem.W.nsIn K mainGlobals "int" = some none)
    (zisinstance : PySem.W.nsIn K mainGlobals "isinstance" = some none)
    (zlist : PySem.W.nsIn K mainGlobals "list" = some none)
    (ztuple : PySem.W.nsIn K mainGlobals "tuple" = some none)
    (zabs : PySem.W.nsIn K mainGlobals "abs" = some none)
    (zmin : PySem.W.nsIn K mainGlobals "min" = some none)
    (zmax : PySem.W.nsIn K mainGlobals "max" = some none)
    (zsorted : PySem.W.nsIn K mainGlobals "sorted" = some none)
    (zreversed : PySem.W.nsIn K mainGlobals "reversed" = some none)
    : ∃ fd : FuncData, (∀ (s : Shared) (v : Value), BindsTo s fd ⟨[v], []⟩ [("script", v)]) ∧ ∀ base : Heap, K.In base → base.Ns mainGlobals mg → FnOk l.prog w K mg base CX0 8 fa fd ["script"] (spLaw K) := by
  have e := hfa.symm.trans (PySem.W.mg_of X G alaw)
  cases e
  have KlRef : Cls K cRef := ⟨pgRef, hdRef, poRef, saRef⟩
  have tyRef : ∀ {H : Hp} {a dx : Addr} {fs : List (Str × V)}, H a = some (.ins cRef dx fs) → TyX K H (.ref a) (.ref cRef) := fun e => .base (.ins e KlRef haRef hnTy htTy hmRef)
  have KlParts : Cls K cParts := ⟨pgParts, hdParts, poParts, saParts⟩
  have tyParts : ∀ {H : Hp} {a dx : Addr} {fs : List (Str × V)}, H a = some (.ins cParts dx fs) → TyX K H (.ref a) (.ref cParts) := fun e => .base (.ins e KlParts haParts hnTy htTy hmParts)
  have KlTable : Cls K cTable := ⟨pgTable, hdTable, poTable, saTable⟩
  have tyTable : ∀ {H : Hp} {a dx : Addr} {fs : List (Str × V)}, H a = some (.ins cTable dx fs) → TyX K H (.ref a) (.ref cTable) := fun e => .base (.ins e KlTable haTable hnTy htTy hmTable)
  have KlInstance : Cls K cInstance := ⟨pgInstance, hdInstance, poInstance, saInstance⟩
  have tyInstance : ∀ {H : Hp} {a dx : Addr} {fs : List (Str × V)}, H a = some (.ins cInstance dx fs) → TyX K H (.ref a) (.ref cInstance) := fun e => .base (.ins e KlInstance haInstance hnTy htTy hmInstance)
  have KlKin : Cls K cKin := ⟨pgKin, hdKin, poKin, saKin⟩
  have tyKin : ∀ {H : Hp} {a dx : Addr} {fs : List (Str × V)}, H a = some (.ins cKin dx fs) → TyX K H (.ref a) (.ref cKin) := fun e => .base (.ins e KlKin haKin hnTy htTy hmKin)
  have KlClosure : Cls K cClosure := ⟨pgClosure, hdClosure, poClosure, saClosure⟩
  have tyClosure : ∀ {H : Hp} {a dx : Addr} {fs : List (Str × V)}, H a = some (.ins cClosure dx fs) → TyX K H (.ref a) (.ref cClosure) := fun e => .base (.ins e KlClosure haClosure hnTy htTy hmClosure)
  have KlVariable : Cls K cVariable := ⟨pgVariable, hdVariable, poVariable, saVariable⟩
  have tyVariable : ∀ {H : Hp} {a dx : Addr} {fs : List (Str × V)}, H a = some (.ins cVariable dx fs) → TyX K H (.ref a) (.ref cVariable) := fun e => .base (.ins e KlVariable haVariable hnTy htTy hmVariable)
  have KlCursor : Cls K cCursor := ⟨pgCursor, hdCursor, poCursor, saCursor⟩
  have tyCursor : ∀ {H : Hp} {a dx : Addr} {fs : List (Str × V)}, H a = some (.ins cCursor dx fs) → TyX K H (.ref a) (.ref cCursor) := fun e => .base (.ins e KlCursor haCursor hnTy htTy hmCursor)
  have KlChunk : Cls K cChunk := ⟨pgChunk, hdChunk, poChunk, saChunk⟩
  have tyChunk : ∀ {H : Hp} {a dx : Addr} {fs : List (Str × V)}, H a = some (.ins cChunk dx fs) → TyX K H (.ref a) (.ref cChunk) := fun e => .base (.ins e KlChunk haChunk hnTy htTy hmChunk)
  have KlFrame : Cls K cFrame := ⟨pgFrame, hdFrame, poFrame, saFrame⟩
  have tyFrame : ∀ {H : Hp} {a dx : Addr} {fs : List (Str × V)}, H a = some (.ins cFrame dx fs) → TyX K H (.ref a) (.ref cFrame) := fun e => .base (.ins e KlFrame haFrame hnTy htTy hmFrame)
  have KlStore : Cls K cStore := ⟨pgStore, hdStore, poStore, saStore⟩
  have tyStore : ∀ {H : Hp} {a dx : Addr} {fs : List (Str × V)}, H a = some (.ins cStore dx fs) → TyX K H (.ref a) (.ref cStore) := fun e => .base (.ins e KlStore haStore hnTy htTy hmStore)
  have KlMachine : Cls K cMachine := ⟨pgMachine, hdMachine, poMachine, saMachine⟩
  have tyMachine : ∀ {H : Hp} {a dx : Addr} {fs : List (Str × V)}, H a = some (.ins cMachine dx fs) → TyX K H (.ref a) (.ref cMachine) := fun e => .base (.ins e KlMachine haMachine hnTy htTy hmMachine)
  have Ff_children_of := fun_mk (st := s_children_of) lf_children_of cf_children_of kf_children_of
  have bf_children_of := Ff_children_of.binds (ps := ["store", "number"]) fun _ _ _ _ _ _ us hl => match us, hl with | [_, _], _ => rfl
  have glf_children_of := PySem.W.mg_of X G af_children_of
  have Ff_numbers_of := fun_mk (st := s_numbers_of) lf_numbers_of cf_numbers_of kf_numbers_of
  have bf_numbers_of := Ff_numbers_of.binds (ps := ["values"]) fun _ _ _ _ _ _ us hl => match us, hl with | [_], _ => rfl
  have glf_numbers_of := PySem.W.mg_of X G af_numbers_of
  have Ff_values_of := fun_mk (st := s_values_of) lf_values_of cf_values_of kf_values_of
  have bf_values_of := Ff_values_of.binds (ps := ["thing"]) fun _ _ _ _ _ _ us hl => match us, hl with | [_], _ => rfl
  have glf_values_of := PySem.W.mg_of X G af_values_of
  have Ff_roots_of := fun_mk (st := s_roots_of) lf_roots_of cf_roots_of kf_roots_of
  have bf_roots_of := Ff_roots_of.binds (ps := ["machine"]) fun _ _ _ _ _ _ us hl => match us, hl with | [_], _ => rfl
  have glf_roots_of := PySem.W.mg_of X G af_roots_of
  have Ff_reached_from := fun_mk (st := s_reached_from) lf_reached_from cf_reached_from kf_reached_from
  have bf_reached_from := Ff_reached_from.binds (ps := ["store", "numbers"]) fun _ _ _ _ _ _ us hl => match us, hl with | [_, _], _ => rfl
  have glf_reached_from := PySem.W.mg_of X G af_reached_from
  have Ff_lost_objects := fun_mk (st := s_lost_objects) lf_lost_objects cf_lost_objects kf_lost_objects
  have bf_lost_objects := Ff_lost_objects.binds (ps := ["machine"]) fun _ _ _ _ _ _ us hl => match us, hl with | [_], _ => rfl
  have glf_lost_objects := PySem.W.mg_of X G af_lost_objects
  have Ff_way_to := fun_mk (st := s_way_to) lf_way_to cf_way_to kf_way_to
  have bf_way_to := Ff_way_to.binds (ps := ["machine", "number"]) fun _ _ _ _ _ _ us hl => match us, hl with | [_, _], _ => rfl
  have glf_way_to := PySem.W.mg_of X G af_way_to
  have Ff_way_back := fun_mk (st := s_way_back) lf_way_back cf_way_back kf_way_back
  have bf_way_back := Ff_way_back.binds (ps := ["ahead", "number"]) fun _ _ _ _ _ _ us hl => match us, hl with | [_, _], _ => rfl
  have glf_way_back := PySem.W.mg_of X G af_way_back
  have Ff_law_cell := fun_mk (st := s_law_cell) lf_law_cell cf_law_cell kf_law_cell
  have bf_law_cell := Ff_law_cell.binds (ps := ["script", "k"]) fun _ _ _ _ _ _ us hl => match us, hl with | [_, _], _ => rfl
  have glf_law_cell := PySem.W.mg_of X G af_law_cell
  have Ff_law_begin := fun_mk (st := s_law_begin) lf_law_begin cf_law_begin kf_law_begin
  have bf_law_begin := Ff_law_begin.binds (ps := ["script", "k"]) fun _ _ _ _ _ _ us hl => match us, hl with | [_, _], _ => rfl
  have glf_law_begin := PySem.W.mg_of X G af_law_begin
  have Ff_law_draw := fun_mk (st := s_law_draw) lf_law_draw cf_law_draw kf_law_draw
  have bf_law_draw := Ff_law_draw.binds (ps := ["state", "many"]) fun _ _ _ _ _ _ us hl => match us, hl with | [_, _], _ => rfl
  have glf_law_draw := PySem.W.mg_of X G af_law_draw
  have Ff_law_machine := fun_mk (st := s_law_machine) lf_law_machine cf_law_machine kf_law_machine
  have bf_law_machine := Ff_law_machine.binds (ps := ["state"]) fun _ _ _ _ _ _ us hl => match us, hl with | [_], _ => rfl
  have glf_law_machine := PySem.W.mg_of X G af_law_machine
  have Ff_law_refs := fun_mk (st := s_law_refs) lf_law_refs cf_law_refs kf_law_refs
  have bf_law_refs := Ff_law_refs.binds (ps := ["state", "many", "most"]) fun _ _ _ _ _ _ us hl => match us, hl with | [_, _, _], _ => rfl
  have glf_law_refs := PySem.W.mg_of X G af_law_refs
  have Ff_law_frames := fun_mk (st := s_law_frames) lf_law_frames cf_law_frames kf_law_frames
  have bf_law_frames := Ff_law_frames.binds (ps := ["machine", "state"]) fun _ _ _ _ _ _ us hl => match us, hl with | [_, _], _ => rfl
  have glf_law_frames := PySem.W.mg_of X G af_law_frames
  have Ff_law_closed := fun_mk (st := s_law_closed) lf_law_closed cf_law_closed kf_law_closed
  have bf_law_closed := Ff_law_closed.binds (ps := ["store", "numbers"]) fun _ _ _ _ _ _ us hl => match us, hl with | [_, _], _ => rfl
  have glf_law_closed := PySem.W.mg_of X G af_law_closed
  have Ff_law_lengths := fun_mk (st := s_law_lengths) lf_law_lengths cf_law_lengths kf_law_lengths
  have bf_law_lengths := Ff_law_lengths.binds (ps := ["store", "scopes"]) fun _ _ _ _ _ _ us hl => match us, hl with | [_, _], _ => rfl
  have glf_law_lengths := PySem.W.mg_of X G af_law_lengths
  have Flaw := fun_mk (st := s_law) llaw claw klaw
  have gllaw := PySem.W.mg_of X G alaw
  have Ff_Ref_init := fun_mk (st := s_Ref_init) lf_Ref_init cf_Ref_init kf_Ref_init
  have bf_Ref_init := Ff_Ref_init.binds (ps := ["self", "number"]) fun _ _ _ _ _ _ us hl => match us, hl with | [_, _], _ => rfl
  have Kf_Ref_init : Mk K cRef a_Ref_init := ⟨mkRef, af_Ref_init, if_Ref_init, kcRef⟩
  have Ff_Parts_init := fun_mk (st := s_Parts_init) lf_Parts_init cf_Parts_init kf_Parts_init
  have bf_Parts_init := Ff_Parts_init.binds (ps := ["self", "held"]) fun _ _ _ _ _ _ us hl => match us, hl with | [_, _], _ => rfl
  have Kf_Parts_init : Mk K cParts a_Parts_init := ⟨mkParts, af_Parts_init, if_Parts_init, kcParts⟩
  have Ff_Instance_init := fun_mk (st := s_Instance_init) lf_Instance_init cf_Instance_init kf_Instance_init
  have bf_Instance_init := Ff_Instance_init.binds (ps := ["self", "owner"]) fun _ _ _ _ _ _ us hl => match us, hl with | [_, _], _ => rfl
  have Kf_Instance_init : Mk K cInstance a_Instance_init := ⟨mkInstance, af_Instance_init, if_Instance_init, kcInstance⟩
  have Ff_Kin_init := fun_mk (st := s_Kin_init) lf_Kin_init cf_Kin_init kf_Kin_init
  have bf_Kin_init := Ff_Kin_init.binds (ps := ["self", "name", "parent"]) fun _ _ _ _ _ _ us hl => match us, hl with | [_, _, _], _ => rfl
  have Kf_Kin_init : Mk K cKin a_Kin_init := ⟨mkKin, af_Kin_init, if_Kin_init, kcKin⟩
  have Ff_Closure_init := fun_mk (st := s_Closure_init) lf_Closure_init cf_Closure_init kf_Closure_init
  have bf_Closure_init := Ff_Closure_init.binds (ps := ["self", "number", "wanted", "scope"]) fun _ _ _ _ _ _ us hl => match us, hl with | [_, _, _, _], _ => rfl
  have Kf_Closure_init : Mk K cClosure a_Closure_init := ⟨mkClosure, af_Closure_init, if_Closure_init, kcClosure⟩
  have Ff_Variable_init := fun_mk (st := s_Variable_init) lf_Variable_init cf_Variable_init kf_Variable_init
  have bf_Variable_init := Ff_Variable_init.binds (ps := ["self", "value"]) fun _ _ _ _ _ _ us hl => match us, hl with | [_, _], _ => rfl
  have Kf_Variable_init : Mk K cVariable a_Variable_init := ⟨mkVariable, af_Variable_init, if_Variable_init, kcVariable⟩
  have Ff_Chunk_init : FunD K "__init__" "Chunk.__init__" (defArgs s_Chunk_init) (defBody s_Chunk_init) (defScope s_Chunk_init) [.ref ef_Chunk_init] [] a_Chunk_init (PySem.W.fnOf "__init__" "Chunk.__init__" (defArgs s_Chunk_init) (defBody s_Chunk_init) (defScope s_Chunk_init) (.ref dTf_Chunk_init) kVf_Chunk_init dcf_Chunk_init pmf_Chunk_init anf_Chunk_init cdf_Chunk_init ctf_Chunk_init) := ⟨⟨ocf_Chunk_init, odf_Chunk_init, .ref dTf_Chunk_init, kVf_Chunk_init, dcf_Chunk_init, pmf_Chunk_init, anf_Chunk_init, cdf_Chunk_init, ctf_Chunk_init, slf_Chunk_init, rfl, lf_Chunk_init, cf_Chunk_init, .inr ⟨by simp, dTf_Chunk_init, _, dif_Chunk_init.toList, dnf_Chunk_init, rfl, dlf_Chunk_init, by rw [Array.toArray_toList], dvf_Chunk_init⟩, .inl rfl⟩, kf_Chunk_init⟩
  obtain ⟨dsf_Chunk_init, vdf_Chunk_init, bf_Chunk_init⟩ := Ff_Chunk_init.binds1 (ps := ["self", "number", "wanted", "rows", "scopes"]) 4 0 (by simp) rfl fun _ _ _ _ _ _ _ us its h1 h2 => match us, its, h1, h2 with | [_, _, _, _], [_], _, _ => ⟨_, rfl, rfl⟩
  have Kf_Chunk_init : Mk K cChunk a_Chunk_init := ⟨mkChunk, af_Chunk_init, if_Chunk_init, kcChunk⟩
  have sef_Chunk_init : ∀ H, SqT K H ef_Chunk_init [] := fun H => .inr ⟨_, _, _, elf_Chunk_init, rfl, rfl, esf_Chunk_init, evf_Chunk_init⟩
  have Ff_Frame_init := fun_mk (st := s_Frame_init) lf_Frame_init cf_Frame_init kf_Frame_init
  have bf_Frame_init := Ff_Frame_init.binds (ps := ["self", "number", "scope"]) fun _ _ _ _ _ _ us hl => match us, hl with | [_, _, _], _ => rfl
  have Kf_Frame_init : Mk K cFrame a_Frame_init := ⟨mkFrame, af_Frame_init, if_Frame_init, kcFrame⟩
  have Ff_Store_init := fun_mk (st := s_Store_init) lf_Store_init cf_Store_init kf_Store_init
  have bf_Store_init := Ff_Store_init.binds (ps := ["self", "lines"]) fun _ _ _ _ _ _ us hl => match us, hl with | [_, _], _ => rfl
  have Kf_Store_init : Mk K cStore a_Store_init := ⟨mkStore, af_Store_init, if_Store_init, kcStore⟩
  have Ff_Store_make := fun_mk (st := s_Store_make) lf_Store_make cf_Store_make kf_Store_make
  have bf_Store_make := Ff_Store_make.binds (ps := ["self", "thing"]) fun _ _ _ _ _ _ us hl => match us, hl with | [_, _], _ => rfl
  have Mf_Store_make : Meth K cStore "make" a_Store_make := ⟨af_Store_make, if_Store_make, kf_Store_make⟩
  have Ff_Machine_init := fun_mk (st := s_Machine_init) lf_Machine_init cf_Machine_init kf_Machine_init
  have bf_Machine_init := Ff_Machine_init.binds (ps := ["self", "chunks", "lines"]) fun _ _ _ _ _ _ us hl => match us, hl with | [_, _, _], _ => rfl
  have Kf_Machine_init : Mk K cMachine a_Machine_init := ⟨mkMachine, af_Machine_init, if_Machine_init, kcMachine⟩
  have ciERROR : ∃ t, mg "ERROR" = some (.int 0 t) := ⟨_, PySem.W.mg_of X G qERROR⟩
  have L : Lib l.prog K mg ⟨cRef, cParts, cTable, cInstance, cKin, cClosure, cVariable, cCursor, cChunk, cFrame, cStore, cMachine⟩ := ⟨PySem.W.mg_none_of X G zrange, PySem.W.mg_none_of X G zlen, PySem.W.mg_none_of X G zint, PySem.W.mg_none_of X G zisinstance, PySem.W.mg_none_of X G zlist, PySem.W.mg_none_of X G ztuple, PySem.W.mg_none_of X G zabs, PySem.W.mg_none_of X G zmin, PySem.W.mg_none_of X G zmax, PySem.W.mg_none_of X G zsorted, PySem.W.mg_none_of X G zreversed, ⟨KlRef, PySem.W.mg_of X G uRef, tyRef⟩, nRef_number, ⟨KlParts, PySem.W.mg_of X G uParts, tyParts⟩, nParts_held, ⟨KlTable, PySem.W.mg_of X G uTable, tyTable⟩, ⟨KlInstance, PySem.W.mg_of X G uInstance, tyInstance⟩, nInstance_owner, nInstance_named, ⟨KlKin, PySem.W.mg_of X G uKin, tyKin⟩, nKin_name, nKin_parent, nKin_methods, ⟨KlClosure, PySem.W.mg_of X G uClosure, tyClosure⟩, nClosure_number, nClosure_wanted, nClosure_scope, ⟨KlVariable, PySem.W.mg_of X G uVariable, tyVariable⟩, nVariable_value, ⟨KlCursor, PySem.W.mg_of X G uCursor, tyCursor⟩, ⟨KlChunk, PySem.W.mg_of X G uChunk, tyChunk⟩, nChunk_number, nChunk_wanted, nChunk_rows, nChunk_scopes, ⟨KlFrame, PySem.W.mg_of X G uFrame, tyFrame⟩, nFrame_number, nFrame_at, nFrame_scope, nFrame_stack, nFrame_handlers, nFrame_made, ⟨KlStore, PySem.W.mg_of X G uStore, tyStore⟩, nStore_things, nStore_output, nStore_lines, nStore_taken, ⟨KlMachine, PySem.W.mg_of X G uMachine, tyMachine⟩, nMachine_chunks, nMachine_by_number, nMachine_store, nMachine_steps, nMachine_frames, nMachine_state, nMachine_thrown, nMachine_places, k_Parts_Variable, k_Instance_Variable, k_Instance_Parts, k_Instance_Cursor, k_Instance_Table, k_Kin_Variable, k_Kin_Parts, k_Kin_Cursor, k_Kin_Table, k_Kin_Instance, k_Closure_Variable, k_Closure_Parts, k_Closure_Cursor, k_Closure_Table, k_Closure_Instance, k_Closure_Kin, k_Machine_Kin, k_Machine_Chunk, k_NoneType_Ref, k_int_Ref, k_str_Ref, ciERROR, ⟨_, _, Ff_children_of, bf_children_of, glf_children_of⟩, ⟨_, _, Ff_numbers_of, bf_numbers_of, glf_numbers_of⟩, ⟨_, _, Ff_values_of, bf_values_of, glf_values_of⟩, ⟨_, _, Ff_roots_of, bf_roots_of, glf_roots_of⟩, ⟨_, _, Ff_reached_from, bf_reached_from, glf_reached_from⟩, ⟨_, _, Ff_lost_objects, bf_lost_objects, glf_lost_objects⟩, ⟨_, _, Ff_way_to, bf_way_to, glf_way_to⟩, ⟨_, _, Ff_way_back, bf_way_back, glf_way_back⟩, ⟨_, _, Ff_law_cell, bf_law_cell, glf_law_cell⟩, ⟨_, _, Ff_law_begin, bf_law_begin, glf_law_begin⟩, ⟨_, _, Ff_law_draw, bf_law_draw, glf_law_draw⟩, ⟨_, _, Ff_law_machine, bf_law_machine, glf_law_machine⟩, ⟨_, _, Ff_law_refs, bf_law_refs, glf_law_refs⟩, ⟨_, _, Ff_law_frames, bf_law_frames, glf_law_frames⟩, ⟨_, _, Ff_law_closed, bf_law_closed, glf_law_closed⟩, ⟨_, _, Ff_law_lengths, bf_law_lengths, glf_law_lengths⟩, ⟨_, _, Ff_Ref_init, bf_Ref_init, Kf_Ref_init⟩, ⟨_, _, Ff_Parts_init, bf_Parts_init, Kf_Parts_init⟩, ⟨_, _, Ff_Instance_init, bf_Instance_init, Kf_Instance_init⟩, ⟨_, _, Ff_Kin_init, bf_Kin_init, Kf_Kin_init⟩, ⟨_, _, Ff_Closure_init, bf_Closure_init, Kf_Closure_init⟩, ⟨_, _, Ff_Variable_init, bf_Variable_init, Kf_Variable_init⟩, ⟨_, ef_Chunk_init, _, Ff_Chunk_init, sef_Chunk_init, _, vdf_Chunk_init, bf_Chunk_init, Kf_Chunk_init⟩, ⟨_, _, Ff_Frame_init, bf_Frame_init, Kf_Frame_init⟩, ⟨_, _, Ff_Store_init, bf_Store_init, Kf_Store_init⟩, ⟨_, _, Ff_Store_make, bf_Store_make, Mf_Store_make⟩, ⟨_, _, Ff_Machine_init, bf_Machine_init, Kf_Machine_init⟩⟩
  exact ⟨PySem.W.fnOf "law" "law" (defArgs s_law) (defBody s_law) (defScope s_law) .none kVlaw dclaw pmlaw anlaw cdlaw ctlaw, fun s v => .of_eq rfl, fun base _ _ => ok_law Flaw L⟩
end My
namespace PySem.W.Fast
def tw90343872475197607 : Type := PySem.Params
theorem te90343872475197607 : PySem.Params = tw90343872475197607 := rfl
end PySem.W.Fast
open PySem PySem.W PyProof.Rows
set_option maxRecDepth 100000 in
set_option maxHeartbeats 0 in
theorem PySem.Challenge.cw_livequill_k71_what_is_reached_holds : PySem.Challenge.rw_livequill_k71_what_is_reached.Holds := by
  w_on; o_law; k_head; (case hw => w_witness2)
  k_fill
  refine L2.walk_of (l := PySem.Challenge.rw_livequill_k71_what_is_reached) (n := 63) (k := 8) (x := "script") (CX := fun _ => L2.CX0) (sp := fun w => My.spLaw _) rfl (by decide) rfl ⟨rfl, by decide, by decide⟩ (fun w h Y => PySem.W.kIn_of Y) ?F (fun _ _ a ns hl _ hS => ⟨a, ns, rfl, hS, hl, fun _ => rfl⟩) (fun _ _ _ _ _ h => h)
  case F =>
    intro w mg fa h KX G hmg
    refine' My.all_mk KX G hmg ?uRef ?mkRef ?kcRef ?pgRef ?hdRef ?poRef ?saRef ?nRef_number ?hnTy ?htTy ?haRef ?hmRef ?uParts ?mkParts ?kcParts ?pgParts ?hdParts ?poParts ?saParts ?nParts_held ?haParts ?hmParts ?uTable ?mkTable ?kcTable ?pgTable ?hdTable ?poTable ?saTable ?haTable ?hmTable ?uInstance ?mkInstance ?kcInstance ?pgInstance ?hdInstance ?poInstance ?saInstance ?nInstance_owner ?nInstance_named ?haInstance ?hmInstance ?uKin ?mkKin ?kcKin ?pgKin ?hdKin ?poKin ?saKin ?nKin_name ?nKin_parent ?nKin_methods ?haKin ?hmKin ?uClosure ?mkClosure ?kcClosure ?pgClosure ?hdClosure ?poClosure ?saClosure ?nClosure_number ?nClosure_wanted ?nClosure_scope ?haClosure ?hmClosure ?uVariable ?mkVariable ?kcVariable ?pgVariable ?hdVariable ?poVariable ?saVariable ?nVariable_value ?haVariable ?hmVariable ?uCursor ?mkCursor ?kcCursor ?pgCursor ?hdCursor ?poCursor ?saCursor ?haCursor ?hmCursor ?uChunk ?mkChunk ?kcChunk ?pgChunk ?hdChunk ?poChunk ?saChunk ?nChunk_number ?nChunk_wanted ?nChunk_rows ?nChunk_scopes ?haChunk ?hmChunk ?uFrame ?mkFrame ?kcFrame ?pgFrame ?hdFrame ?poFrame ?saFrame ?nFrame_number ?nFrame_at ?nFrame_scope ?nFrame_stack ?nFrame_handlers ?nFrame_made ?haFrame ?hmFrame ?uStore ?mkStore ?kcStore ?pgStore ?hdStore ?poStore ?saStore ?nStore_things ?nStore_output ?nStore_lines ?nStore_taken ?haStore ?hmStore ?uMachine ?mkMachine ?kcMachine ?pgMachine ?hdMachine ?poMachine ?saMachine ?nMachine_chunks ?nMachine_by_number ?nMachine_store ?nMachine_steps ?nMachine_frames ?nMachine_state ?nMachine_thrown ?nMachine_places ?haMachine ?hmMachine ?af_children_of ?lf_children_of ?cf_children_of ?kf_children_of ?af_numbers_of ?lf_numbers_of ?cf_numbers_of ?kf_numbers_of ?af_values_of ?lf_values_of ?cf_values_of ?kf_values_of ?af_roots_of ?lf_roots_of ?cf_roots_of ?kf_roots_of ?af_reached_from ?lf_reached_from ?cf_reached_from ?kf_reached_from ?af_lost_objects ?lf_lost_objects ?cf_lost_objects ?kf_lost_objects ?af_way_to ?lf_way_to ?cf_way_to ?kf_way_to ?af_way_back ?lf_way_back ?cf_way_back ?kf_way_back ?af_law_cell ?lf_law_cell ?cf_law_cell ?kf_law_cell ?af_law_begin ?lf_law_begin ?cf_law_begin ?kf_law_begin ?af_law_draw ?lf_law_draw ?cf_law_draw ?kf_law_draw ?af_law_machine ?lf_law_machine ?cf_law_machine ?kf_law_machine ?af_law_refs ?lf_law_refs ?cf_law_refs ?kf_law_refs ?af_law_frames ?lf_law_frames ?cf_law_frames ?kf_law_frames ?af_law_closed ?lf_law_closed ?cf_law_closed ?kf_law_closed ?af_law_lengths ?lf_law_lengths ?cf_law_lengths ?kf_law_lengths ?alaw ?llaw ?claw ?klaw ?af_Ref_init ?if_Ref_init ?lf_Ref_init ?cf_Ref_init ?kf_Ref_init ?af_Parts_init ?if_Parts_init ?lf_Parts_init ?cf_Parts_init ?kf_Parts_init ?af_Instance_init ?if_Instance_init ?lf_Instance_init ?cf_Instance_init ?kf_Instance_init ?af_Kin_init ?if_Kin_init ?lf_Kin_init ?cf_Kin_init ?kf_Kin_init ?af_Closure_init ?if_Closure_init ?lf_Closure_init ?cf_Closure_init ?kf_Closure_init ?af_Variable_init ?if_Variable_init ?lf_Variable_init ?cf_Variable_init ?kf_Variable_init ?af_Chunk_init ?if_Chunk_init ?lf_Chunk_init ?cf_Chunk_init ?kf_Chunk_init ?dlf_Chunk_init ?dvf_Chunk_init ?elf_Chunk_init ?evf_Chunk_init ?esf_Chunk_init ?af_Frame_init ?if_Frame_init ?lf_Frame_init ?cf_Frame_init ?kf_Frame_init ?af_Store_init ?if_Store_init ?lf_Store_init ?cf_Store_init ?kf_Store_init ?af_Store_make ?if_Store_make ?lf_Store_make ?cf_Store_make ?kf_Store_make ?af_Machine_init ?if_Machine_init ?lf_Machine_init ?cf_Machine_init ?kf_Machine_init ?qERROR ?k_Parts_Variable ?k_Instance_Variable ?k_Instance_Parts ?k_Instance_Cursor ?k_Instance_Table ?k_Kin_Variable ?k_Kin_Parts ?k_Kin_Cursor ?k_Kin_Table ?k_Kin_Instance ?k_Closure_Variable ?k_Closure_Parts ?k_Closure_Cursor ?k_Closure_Table ?k_Closure_Instance ?k_Closure_Kin ?k_Machine_Kin ?k_Machine_Chunk ?k_NoneType_Ref ?k_int_Ref ?k_str_Ref ?zrange ?zlen ?zint ?zisinstance ?zlist ?ztuple ?zabs ?zmin ?zmax ?zsorted ?zreversed
    (case uRef => k_is)
    (case mkRef => k_is)
    (case kcRef => k_is)
    (case pgRef => k_is)
    (case hdRef => k_is)
    (case poRef => k_is)
    (case saRef => k_is)
    (case nRef_number => k_is)
    (case hnTy => k_is)
    (case htTy => k_is)
    (case haRef => k_is)
    (case hmRef => k_is)
    (case uParts => k_is)
    (case mkParts => k_is)
    (case kcParts => k_is)
    (case pgParts => k_is)
    (case hdParts => k_is)
    (case poParts => k_is)
    (case saParts => k_is)
    (case nParts_held => k_is)
    (case haParts => k_is)
    (case hmParts => k_is)
    (case uTable => k_is)
    (case mkTable => k_is)
    (case kcTable => k_is)
    (case pgTable => k_is)
    (case hdTable => k_is)
    (case poTable => k_is)
    (case saTable => k_is)
    (case haTable => k_is)
    (case hmTable => k_is)
    (case uInstance => k_is)
    (case mkInstance => k_is)
    (case kcInstance => k_is)
    (case pgInstance => k_is)
    (case hdInstance => k_is)
    (case poInstance => k_is)
    (case saInstance => k_is)
    (case nInstance_owner => k_is)
    (case nInstance_named => k_is)
    (case haInstance => k_is)
    (case hmInstance => k_is)
    (case uKin => k_is)
    (case mkKin => k_is)
    (case kcKin => k_is)
    (case pgKin => k_is)
    (case hdKin => k_is)
    (case poKin => k_is)
    (case saKin => k_is)
    (case nKin_name => k_is)
    (case nKin_parent => k_is)
    (case nKin_methods => k_is)
    (case haKin => k_is)
    (case hmKin => k_is)
    (case uClosure => k_is)
    (case mkClosure => k_is)
    (case kcClosure => k_is)
    (case pgClosure => k_is)
    (case hdClosure => k_is)
    (case poClosure => k_is)
    (case saClosure => k_is)
    (case nClosure_number => k_is)
    (case nClosure_wanted => k_is)
    (case nClosure_scope => k_is)
    (case haClosure => k_is)
    (case hmClosure => k_is)
    (case uVariable => k_is)
    (case mkVariable => k_is)
    (case kcVariable => k_is)
    (case pgVariable => k_is)
    (case hdVariable => k_is)
    (case poVariable => k_is)
    (case saVariable => k_is)
    (case nVariable_value => k_is)
    (case haVariable => k_is)
    (case hmVariable => k_is)
    (case uCursor => k_is)
    (case mkCursor => k_is)
    (case kcCursor => k_is)
    (case pgCursor => k_is)
    (case hdCursor => k_is)
    (case poCursor => k_is)
    (case saCursor => k_is)
    (case haCursor => k_is)
    (case hmCursor => k_is)
    (case uChunk => k_is)
    (case mkChunk => k_is)
    (case kcChunk => k_is)
    (case pgChunk => k_is)
    (case hdChunk => k_is)
    (case poChunk => k_is)
    (case saChunk => k_is)
    (case nChunk_number => k_is)
    (case nChunk_wanted => k_is)
    (case nChunk_rows => k_is)
    (case nChunk_scopes => k_is)
    (case haChunk => k_is)
    (case hmChunk => k_is)
    (case uFrame => k_is)
    (case mkFrame => k_is)
    (case kcFrame => k_is)
    (case pgFrame => k_is)
    (case hdFrame => k_is)
    (case poFrame => k_is)
    (case saFrame => k_is)
    (case nFrame_number => k_is)
    (case nFrame_at => k_is)
    (case nFrame_scope => k_is)
    (case nFrame_stack => k_is)
    (case nFrame_handlers => k_is)
    (case nFrame_made => k_is)
    (case haFrame => k_is)
    (case hmFrame => k_is)
    (case uStore => k_is)
    (case mkStore => k_is)
    (case kcStore => k_is)
    (case pgStore => k_is)
    (case hdStore => k_is)
    (case poStore => k_is)
    (case saStore => k_is)
    (case nStore_things => k_is)
    (case nStore_output => k_is)
    (case nStore_lines => k_is)
    (case nStore_taken => k_is)
    (case haStore => k_is)
    (case hmStore => k_is)
    (case uMachine => k_is)
    (case mkMachine => k_is)
    (case kcMachine => k_is)
    (case pgMachine => k_is)
    (case hdMachine => k_is)
    (case poMachine => k_is)
    (case saMachine => k_is)
    (case nMachine_chunks => k_is)
    (case nMachine_by_number => k_is)
    (case nMachine_store => k_is)
    (case nMachine_steps => k_is)
    (case nMachine_frames => k_is)
    (case nMachine_state => k_is)
    (case nMachine_thrown => k_is)
    (case nMachine_places => k_is)
    (case haMachine => k_is)
    (case hmMachine => k_is)
    (case af_children_of => k_is)
    (case lf_children_of => k_is)
    (case cf_children_of => k_is)
    (case kf_children_of => k_is)
    (case af_numbers_of => k_is)
    (case lf_numbers_of => k_is)
    (case cf_numbers_of => k_is)
    (case kf_numbers_of => k_is)
    (case af_values_of => k_is)
    (case lf_values_of => k_is)
    (case cf_values_of => k_is)
    (case kf_values_of => k_is)
    (case af_roots_of => k_is)
    (case lf_roots_of => k_is)
    (case cf_roots_of => k_is)
    (case kf_roots_of => k_is)
    (case af_reached_from => k_is)
    (case lf_reached_from => k_is)
    (case cf_reached_from => k_is)
    (case kf_reached_from => k_is)
    (case af_lost_objects => k_is)
    (case lf_lost_objects => k_is)
    (case cf_lost_objects => k_is)
    (case kf_lost_objects => k_is)
    (case af_way_to => k_is)
    (case lf_way_to => k_is)
    (case cf_way_to => k_is)
    (case kf_way_to => k_is)
    (case af_way_back => k_is)
    (case lf_way_back => k_is)
    (case cf_way_back => k_is)
    (case kf_way_back => k_is)
    (case af_law_cell => k_is)
    (case lf_law_cell => k_is)
    (case cf_law_cell => k_is)
    (case kf_law_cell => k_is)
    (case af_law_begin => k_is)
    (case lf_law_begin => k_is)
    (case cf_law_begin => k_is)
    (case kf_law_begin => k_is)
    (case af_law_draw => k_is)
    (case lf_law_draw => k_is)
    (case cf_law_draw => k_is)
    (case kf_law_draw => k_is)
    (case af_law_machine => k_is)
    (case lf_law_machine => k_is)
    (case cf_law_machine => k_is)
    (case kf_law_machine => k_is)
    (case af_law_refs => k_is)
    (case lf_law_refs => k_is)
    (case cf_law_refs => k_is)
    (case kf_law_refs => k_is)
    (case af_law_frames => k_is)
    (case lf_law_frames => k_is)
    (case cf_law_frames => k_is)
    (case kf_law_frames => k_is)
    (case af_law_closed => k_is)
    (case lf_law_closed => k_is)
    (case cf_law_closed => k_is)
    (case kf_law_closed => k_is)
    (case af_law_lengths => k_is)
    (case lf_law_lengths => k_is)
    (case cf_law_lengths => k_is)
    (case kf_law_lengths => k_is)
    (case alaw => k_is)
    (case llaw => k_is)
    (case claw => k_is)
    (case klaw => k_is)
    (case af_Ref_init => k_is)
    (case if_Ref_init => k_is)
    (case lf_Ref_init => k_is)
    (case cf_Ref_init => k_is)
    (case kf_Ref_init => k_is)
    (case af_Parts_init => k_is)
    (case if_Parts_init => k_is)
    (case lf_Parts_init => k_is)
    (case cf_Parts_init => k_is)
    (case kf_Parts_init => k_is)
    (case af_Instance_init => k_is)
    (case if_Instance_init => k_is)
    (case lf_Instance_init => k_is)
    (case cf_Instance_init => k_is)
    (case kf_Instance_init => k_is)
    (case af_Kin_init => k_is)
    (case if_Kin_init => k_is)
    (case lf_Kin_init => k_is)
    (case cf_Kin_init => k_is)
    (case kf_Kin_init => k_is)
    (case af_Closure_init => k_is)
    (case if_Closure_init => k_is)
    (case lf_Closure_init => k_is)
    (case cf_Closure_init => k_is)
    (case kf_Closure_init => k_is)
    (case af_Variable_init => k_is)
    (case if_Variable_init => k_is)
    (case lf_Variable_init => k_is)
    (case cf_Variable_init => k_is)
    (case kf_Variable_init => k_is)
    (case af_Chunk_init => k_is)
    (case if_Chunk_init => k_is)
    (case lf_Chunk_init => k_is)
    (case cf_Chunk_init => k_is)
    (case kf_Chunk_init => k_is)
    (case dlf_Chunk_init => k_is)
    (case dvf_Chunk_init => exact PySem.Paired.cons rfl PySem.Paired.nil)
    (case elf_Chunk_init => k_is)
    (case evf_Chunk_init => exact PySem.Paired.nil)
    (case esf_Chunk_init => (rw [sizeLine_eq]; decide))
    (case af_Frame_init => k_is)
    (case if_Frame_init => k_is)
    (case lf_Frame_init => k_is)
    (case cf_Frame_init => k_is)
    (case kf_Frame_init => k_is)
    (case af_Store_init => k_is)
    (case if_Store_init => k_is)
    (case lf_Store_init => k_is)
    (case cf_Store_init => k_is)
    (case kf_Store_init => k_is)
    (case af_Store_make => k_is)
    (case if_Store_make => k_is)
    (case lf_Store_make => k_is)
    (case cf_Store_make => k_is)
    (case kf_Store_make => k_is)
    (case af_Machine_init => k_is)
    (case if_Machine_init => k_is)
    (case lf_Machine_init => k_is)
    (case cf_Machine_init => k_is)
    (case kf_Machine_init => k_is)
    (case qERROR => k_is)
    (case k_Parts_Variable => kit_is)
    (case k_Instance_Variable => kit_is)
    (case k_Instance_Parts => kit_is)
    (case k_Instance_Cursor => kit_is)
    (case k_Instance_Table => kit_is)
    (case k_Kin_Variable => kit_is)
    (case k_Kin_Parts => kit_is)
    (case k_Kin_Cursor => kit_is)
    (case k_Kin_Table => kit_is)
    (case k_Kin_Instance => kit_is)
    (case k_Closure_Variable => kit_is)
    (case k_Closure_Parts => kit_is)
    (case k_Closure_Cursor => kit_is)
    (case k_Closure_Table => kit_is)
    (case k_Closure_Instance => kit_is)
    (case k_Closure_Kin => kit_is)
    (case k_Machine_Kin => kit_is)
    (case k_Machine_Chunk => kit_is)
    (case k_NoneType_Ref => kit_is)
    (case k_int_Ref => kit_is)
    (case k_str_Ref => kit_is)
    (case zrange => k_is)
    (case zlen => k_is)
    (case zint => k_is)
    (case zisinstance => k_is)
    (case zlist => k_is)
    (case ztuple => k_is)
    (case zabs => k_is)
    (case zmin => k_is)
    (case zmax => k_is)
    (case zsorted => k_is)
    (case zreversed => k_is)
