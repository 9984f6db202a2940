import PyProof.Rows.All
import Wide.All
import OpenK.AllK
import Wide.FinOn
import HandS.ForMost
import HandS.ForExc
import HandS.StrMore
import HandS.IsInst
import HandS.Codes
import HandS.Gcd
import HandS.Zip
import HandS.Zip0
import KE.GoesZip
import KE.GoesMore
import HandS.Walk
import KE.KMathG
import HandS.Text
import HandS.Flow
import HandS.More
import HandS.Walk
import HandS.OwnEq
import HandS.Style
import PyProof.Raises
import KE.RegKIsAll
import KE.KSuper
import KE.KExcSuper
import HandS.ExcInit
import HandS.Nested
import HandS.FStr
import HandS.ExcField
import HandS.ExcIs
import HandS.Wide
import HandS.Defaults
import HandS.List
import HandS.DeepEq
import HandS.SortInts
import HandS.Replace
import KE.GoesEnum
import HandS.ReplaceDef
import HandS.ReplaceLit
import HandS.ReplaceList
import HandS.WideBits
import HandS.ExcCtx
import HandS.HotCalls
import HandS.Deep
import HandS.CallLocal
import HandS.CallSlots
import HandS.Star
import HandS.TupLen
import HandS.Property
import KE.KStar
import KE.KeyNested
import KE.KDictCopyH
import KE.KDictList
import PyProof.StrBlock2
import HandS.Conv
import KE.KDictWalk
import KE.KDictZip
import PyProof.DictValues
import PyProof.DictRoadsH
import PyProof.DictMoreH
import PyProof.Rows.TupTab
import PySem.Challenge.RW_livequill_k36_code_that_is_refused
set_option Elab.async false
set_option linter.all false
set_option maxRecDepth 100000
namespace XS
open PySem PySem.W PySem.Calls PyProof.Rows L2 NdefX
/-! ### an own exception whose __init__ begins with super().__init__(e), over ValueError -/
/-- what the written part says: of the def at fI (its code object at cda, its cell at cc), of the class D in which it is written, and of the class C that is made -/
structure Sup (prog : Program) (K : Frag) (mg : Str → Option Value) (cda cc D C : Addr) : Prop where
  code : ∃ ccl cdd vs ccs file tf, K.lookup cda = some ⟨ccl, cdd, .fields vs, ccs⟩ ∧ vs[2]? = some (.str file tf) ∧ ((prog.main.file : Str) == file) = true
  cell : ∃ cl cld csl, K.lookup cc = some ⟨cl, cld, .cell (some (.ref D)), csl⟩
  top : (prog.main.scope.names.lookup ("super" : Str)).isSome = false
  sup : mg "super" = none
  cls : ∃ cdD, clsIn K D = some cdD
  sub : mroIn K C (.ref D) = some true
  opq : nsIn K cStatics "thirdparty.any" = some none
  ini : ks_superIn K C D "__init__" = some (some (.builtin "ValueError.__init__"))
  val : subIn K (.ref C) (.type "ValueError") = some true

theorem excInit_exo {cdC : Addr} {K : Frag} (T : OexC K cdC) {h : Heap} (X : K.In h) : ∃ nm q N bs bm sn sub ab col dd k0 k1 k2 k3 k5, h.get? cdC = some (excClassObj nm q cdC N bs bm true sn sub ab col dd k0 k1 k2 k3 k5 "ValueError.__new__") ∧ PySem.HandSPX.refsVE bm = true := by
  obtain ⟨nm, q, N, bs, bm, sn, sub, ab, col, dd, k0, k1, k2, k3, k5, hC, hbm⟩ := T.cls
  exact ⟨nm, q, N, bs, bm, sn, sub, ab, col, dd, k0, k1, k2, k3, k5, X _ _ hC, hbm⟩

section
variable {X : Cx} {pins : List (Addr × Obj)} {σ : L2.St} {H : Hp} {s : Shared} {x C : Addr} {A : Around} {E : Value → Shared → Prop}
/-- the method-wrapper called -/
theorem mw_call {u : Addr} {us : List Value} {Q : Value → Shared → Prop} (T : OexC X.K C) (I : Inv X pins σ H s) (e : H x = some (exo x C none)) (hu : s.heap.get? u = some (kxs_mw "ValueError.__init__" x)) (hl : us.length ≤ sizeLine)
    (h : ∀ s', Inv X pins σ H s' → Q .none s') : wpAny (model X.prog X.w) A (call (.ref u) us) Q E s := by
  obtain ⟨nm, q, N, bs, bm, sn, sub, ab, col, dd, k0, k1, k2, k3, k5, hC, hbm⟩ := excInit_exo T I.kIn
  obtain ⟨t1, ho⟩ := exo_at I.hok e
  obtain ⟨hp, g, d, t, os⟩ := s
  refine wpAny_call (codeAny_of_tree ?_)
  show wpAny _ A.in1 (callAny (.ref u) ⟨us, []⟩) _ _ _
  simp only [callAny]
  refine wpAny_bind (wpAny_load hu ?_)
  simp only [kxs_mw, show (Value.type "method-wrapper" == Value.type "method" || Value.type "method-wrapper" == Value.type "builtin_function_or_method" || Value.type "method-wrapper" == Value.type "method-wrapper") = true by decide, if_true]
  refine KFB.if_so (by decide) ?_
  refine wpAny_bind (check_bound_init F.excBase_ValueError.toExcCallFacts hC ho rfl ?_)
  refine wpAny_bind (wpAny_pure (wpAny_pure ?_))
  refine ⟨plainId_quiet F.excBase_ValueError.init.plain _, codeAny_builtin F.excBase_ValueError.initEntry ?_⟩
  refine exc_init_tree (cls := .ref C) (t0 := t1) (dv := none) (c2 := .none) (c3 := .none) (b4 := .bool false) ho hl fun h' k hx _ => ?_
  have J := I.write (t' := t) (x := x) (e := x) (o := exo x C none) (by rw [e]; exact True.intro) (.inl rfl) k ⟨_, hx⟩ (exo_ok hx)
  have eu : upd H x (exo x C none) = H := by
    funext b
    by_cases hb : b = x
    · rw [hb, upd_same, e]
    · rw [upd_ne hb]
  rw [eu] at J
  exact h _ J
end
theorem mw_with {M : Model} {A : Around} {E : Value → Shared → Prop} {s : Shared} {u x : Addr} {i : String} {pos : Pos} {env : Env} {e : Expr} {rest : List Expr} {Q : Value → Shared → Prop}
    (he : starEach (e :: rest) env = (false, eval e env) :: starEach rest env) (hplain : (backTo pos (starEach rest env)).any (·.1) = false)
    (h : wpAny M A (spliced (backTo pos (starEach (e :: rest) env))) (fun vs s₁ => KxsAt i u x s₁.heap ∧ wpAny M A (call (.ref u) vs) Q E s₁) E s) :
    wpAny M A (callWith pos (.ref u) [] (backTo pos (starEach (e :: rest) env)) []) Q E s := by
  rw [he] at h ⊢
  refine kxs_callWith (i := i) (x := x) (by show (false || (backTo pos (starEach rest env)).any (·.1)) = false; rw [hplain]; rfl) ?_
  exact evalArgs_plain h
/-- the def's own words -/
structure SupFn where
  qual : Str
  params : Arguments
  rest : List Stmt
  scope : Scope
  cda : Addr
  cc : Addr
  arg : Expr
  p0 : Pos
  p1 : Pos
  p2 : Pos
  p3 : Pos
  p4 : Pos
abbrev SupFn.body (F : SupFn) : List Stmt := .Expr (.Call (.Attribute (.Call (.Name "super" F.p0) [] [] F.p1) "__init__" F.p2) [F.arg] [] F.p3) F.p4 :: F.rest
abbrev SupFn.nf (F : SupFn) : NF := ⟨"__init__", F.qual, F.params, F.body, F.scope, [("__class__", F.cc)], F.cda⟩
def SupFn.Ev (F : SupFn) : Prop := ∀ env : Env, (∃ pl : Sem Bool, eval (.Call (.Attribute (.Call (.Name "super" F.p0) [] [] F.p1) "__init__" F.p2) [F.arg] [] F.p3) env = (do
      let ov ← attributeBase (.Call (.Name "super" F.p0) [] [] F.p1) "__init__" env (eval (.Call (.Name "super" F.p0) [] [] F.p1) env)
      standAt F.p2.atName
      let (f, first) ← holding [ov] (getMethod ov "__init__" pl)
      callWith F.p3 f first (backTo F.p3 (starEach [F.arg] env)) [])) ∧ starEach [F.arg] env = (false, eval F.arg env) :: starEach [] env ∧ swapsWith (.Call (.Attribute (.Call (.Name "super" F.p0) [] [] F.p1) "__init__" F.p2) [F.arg] [] F.p3) none F.p4.line env = pure false
theorem fn_super {CX : CXT} {P : Program} {w : World} {K : Frag} {mg : Str → Option Value} {base : Heap} {k : Nat} {fI D : Addr} {F : SupFn} {dV kV doc pm ct oc : Value} {an od : Option Addr} {osl : Array (Option Value)} {N ps : List Str} {sp : Sp} {ar : Arg}
    (lk : K.lookup fI = some ⟨oc, od, .func (ksFn "__init__" F.qual F.params F.body F.scope dV kV doc pm an (.ref F.cda) ct F.cc), osl⟩) (hcd : codeIn K (.ref F.cda) F.qual = true) (S : NScope N ps ["__class__"] F.scope)
    (hp : (F.params.posonlyargs ++ F.params.args).head? = some ar) (h0 : ps.head? = some ar.arg) (hks : F.scope.names.lookup ("super" : Str) = some .globalImplicit)
    (hev : F.Ev) (len : ∀ vs H Q E, sp vs H Q E → vs.length = ps.length)
    (hbody : ∀ (A : Around) (outer : List Env) (s : Shared) (H : Hp) (vs : List V) (Q : VK) (E : XK), Room k (A.deeper (envF F.nf fI s.heap.objs.size)) → sp vs H Q E →
      ∃ (x C : Addr) (ta : TA) (t : TS), vs.head? = some (.ref x) ∧ H x = some (exo x C none) ∧ OexC K C ∧ Sup P K mg F.cda F.cc D C ∧
        PA (ncx CX P w K mg base N F.nf fI A outer s H E) [F.arg] ta ∧ PSs (ncx CX P w K mg base N F.nf fI A outer s H E) F.rest t ∧
        ta (startF N vs [none]) H fun ws H1 => ws.length ≤ 1000 ∧ H1 x = some (exo x C none) ∧ t { nx := fun _ H' => Q .non H', rt := Q } (startF N vs [none]) H1) :
    FnOk P w K mg base CX (k + 1) fI (ksFn "__init__" F.qual F.params F.body F.scope dV kV doc pm an (.ref F.cda) ct F.cc) ps sp := by
  refine ⟨len, fun A outer s H args us vs Q E hr e0 hb r hsp => ?_⟩
  have hl := len _ _ _ _ hsp
  have KX : K.In s.heap := e0.mod.kin.keeps fun b o e => (e0.bs b o e).1
  have lim : s.heap.NoLimit := e0.mod.nolimit.keeps fun b o e => (e0.bs b o e).1
  obtain ⟨x, C, ta, t, hx0, hx, T, U, pa, pb, hq⟩ := hbody A outer s H vs Q E (hr.deeper _) hsp
  obtain ⟨ccl, cdd, cvs, ccs, file, tf, hcode, hvs, hfile⟩ := U.code
  obtain ⟨cl, cld, csl, hcell⟩ := U.cell
  obtain ⟨cdD, hD⟩ := U.cls
  refine ks_codeAny_call_defAt (fd := ksFn "__init__" F.qual F.params F.body F.scope dV kV doc pm an (.ref F.cda) ct F.cc) (body := F.body) (binds := ps.zip us) hr.depth (KX _ _ lk) rfl lim (codeRec_of KX hcd) rfl hb S.nocell (fun ⟨n, _⟩ hy => S.par n (List.of_mem_zip hy).1) (fun h₁ hns kp => ?_) S.co S.gen S.kind
  have CA : CellsAt F.nf.cl ["__class__"] [none] s.heap H := by
    have hc0 : base.get? F.cc = _ := e0.mod.kin _ _ hcell
    obtain ⟨g1, g2⟩ := e0.bs _ _ hc0
    have key : ∀ y c, F.nf.cl.lookup y = some c → y = "__class__" ∧ c = F.cc := fun y c e => by
      by_cases hy : y = "__class__"
      · subst hy
        have e' : some F.cc = some c := by simpa [List.lookup] using e
        exact ⟨rfl, (Option.some.inj e').symm⟩
      · have hne : (y == ("__class__" : Str)) = false := by simpa using hy
        have e' : (none : Option Addr) = some c := by simpa [List.lookup, hne] using e
        cases e'
    refine ⟨rfl, fun y c e => ?_, fun a b c e1 e2 => (key _ _ e1).1.trans (key _ _ e2).1.symm, fun i y e => ?_⟩
    · obtain ⟨_, rfl⟩ := key y c e
      exact ⟨g2, _, _, g1, rfl⟩
    · obtain rfl : y = "__class__" := by
        cases i with
        | zero => exact (Option.some.inj e).symm
        | succ i => cases e
      refine ⟨F.cc, by simp [List.lookup], fun v e' => ?_⟩
      cases i with
      | zero => cases e'
      | succ i => cases e
  have I : Inv (ncx CX P w K mg base N F.nf fI A outer s H E) [] (startF N vs [none]) H { s with heap := h₁, toks := s.toks + (ps.zip us).length } := inv_startN (F := F.nf) S hr.hd e0 hl r CA hns kp
  generalize hs1 : ({ s with heap := h₁, toks := s.toks + (ps.zip us).length } : Shared) = s1 at I ⊢
  have X1 : K.In s1.heap := I.kIn
  obtain ⟨t1, ho⟩ := exo_at I.hok hx
  obtain ⟨oD, hD1, hD2⟩ : ∃ oD, s1.heap.get? D = some oD ∧ oD.data = .cls cdD := by
    unfold clsIn at hD
    split at hD
    · rename_i c d cd' sl ho
      cases hD
      exact ⟨_, X1 _ _ ho, rfl⟩
    · cases hD
  have J : InstAt s1.heap x { cls := .ref C, dict := none, data := .fields #[.ref t1, .none, .none, .none, .bool false, .none] } C none := ⟨ho, rfl, rfl, trivial⟩
  have hself : ∃ u0 ur, us = u0 :: ur ∧ u0 = .ref x := by
    cases vs with
    | nil => cases hx0
    | cons v vr =>
      cases r with
      | @cons _ u0 _ ur ra rr =>
        obtain rfl : v = V.ref x := Option.some.inj hx0
        exact ⟨_, _, rfl, ra⟩
  obtain ⟨u0, ur, eu, eu0⟩ := hself
  subst eu0
  have hN : ∃ pr, ps = ar.arg :: pr := by
    cases ps with
    | nil => cases h0
    | cons a pr =>
      obtain rfl : a = ar.arg := Option.some.inj h0
      exact ⟨pr, rfl⟩
  obtain ⟨pr, eps⟩ := hN
  have ndP : ps.Nodup := by
    have q := S.nd.sublist (List.take_sublist (ps.length + (["__class__"] : List Str).length) N)
    rw [S.pre] at q
    exact (List.nodup_append.mp q).1
  have hns1 : s1.heap.Ns s.heap.objs.size (fun y => (ps.zip us).reverse.lookup y) := by rw [← hs1]; exact hns
  have hav : (ps.zip us).reverse.lookup ar.arg = some (.ref x) := zip_look (i := 0) ndP (by rw [eps]; rfl) (by rw [eu]; rfl)
  have ea : (ncx CX P w K mg base N F.nf fI A outer s H E).xe = fun e s' => wpAny (model P w) (A.deeper (envF F.nf fI s.heap.objs.size)) (leaving (envF F.nf fI s.heap.objs.size) e) (fun _ s'' => CX outer H s E e s'') (fun e' s'' => CX outer H s E e' s'') s' := rfl
  show _root_.PySem.wpAt (model P w) (A.deeper (envF F.nf fI s.heap.objs.size)) (.func F.body (envF F.nf fI s.heap.objs.size)) (execs F.body (envF F.nf fI s.heap.objs.size)) _ (ncx CX P w K mg base N F.nf fI A outer s H E).xe s1
  obtain ⟨⟨pl, hev1⟩, hev2, hev3⟩ := hev (envF F.nf fI s.heap.objs.size)
  refine ks_wpAt_execs_cons (ks_wpAt_Expr_any (ks_wpAt_MethodCall (pl := pl) ?_ hev1) (by show interactive (envF F.nf fI s.heap.objs.size) = false; simp [interactive, S.kind]) hev3)
  obtain ⟨mb, hb1, hb2⟩ := e0.mod.blt
  refine ks_wpAt_super_base (env := envF F.nf fI s.heap.objs.size) (of := _) (fd := _) (ar := ar) (oc := _) hks (S.frk _ (by simp)) rfl rfl (X1 _ _ lk) rfl hp rfl (X1 _ _ hcode) rfl hvs hfile U.top ?_
  refine ks_loadName_global S.kind hks (loadGlobal_builtin (env := envF F.nf fI s.heap.objs.size) (e0.mod.glob.keeps I.bk) U.sup (hb1.keeps I.bk) ((hb2 _ (by decide)).trans (by decide +kernel)) ⟨rfl, ?_⟩)
  refine wpAny_loadName_free S.kind (S.frk _ (by simp)) rfl ⟨_, X1 _ _ hcell, rfl⟩ ?_
  refine wpAny_loadName_local S.kind (S.par _ (by rw [eps]; simp)) hns1 hav ?_
  refine ks_wpAny_isType_cls hD1 hD2 ⟨rfl, ?_⟩
  clear hns kp
  obtain ⟨hp1, g1, d1, tk1, os1⟩ := s1
  refine ks_wpAny_call_super hD1 hD2 J.at_ J.cls (fun c e => by cases e) (looks_mroIn X1 U.sub) (fun h2 es2 k2 => ?_)
  have I2 := I.kept (t' := tk1) k2
  have X2 : K.In h2 := I2.kIn
  have J2 : InstAt h2 x { cls := .ref C, dict := none, data := .fields #[.ref t1, .none, .none, .none, .bool false, .none] } C none := ⟨k2 _ _ ho, rfl, rfl, trivial⟩
  have hI : Looks (model P w) h2 (isInstance (.ref x) (.type "ValueError")) true := J2.type.andThen (looks_subIn X2 U.val)
  have hini := U.ini
  cases hc : clsIn K C with
  | none => unfold ks_superIn at hini; rw [hc] at hini; cases hini
  | some cd =>
    unfold ks_superIn at hini
    rw [hc] at hini
    refine kxs_getMethod kxs_ValueError es2 (looks_opaque X2 U.opq) (l₀ := cd.mro) (fun A Q E s k q => wpAny_bind ((looks_clsIn X2 hc) A _ E s k (wpAny_pure q))) rfl X2 hini hI (ks_ne X2 J2 hc) rfl ?_
    have k3 : ∀ b o, h2.get? b = some o → (h2.push (kxs_mw "ValueError.__init__" x)).get? b = some o := fun b o e => Heap.get?_push_of_some _ e
    have I3 := I2.kept (h' := h2.push (kxs_mw "ValueError.__init__" x)) (t' := tk1 + 1) k3
    have hu : (h2.push (kxs_mw "ValueError.__init__" x)).get? h2.objs.size = some (kxs_mw "ValueError.__init__" x) := Heap.get?_push_at rfl rfl
    have pin : Inv (ncx CX P w K mg base N F.nf fI A outer s H E) [(h2.objs.size, kxs_mw "ValueError.__init__" x)] (startF N vs [none]) H ⟨h2.push (kxs_mw "ValueError.__init__" x), g1, d1, tk1 + 1, os1⟩ := by
      refine Inv.pins_of I3 fun p hp => ?_
      obtain rfl : p = (h2.objs.size, kxs_mw "ValueError.__init__" x) := by simpa using hp
      refine ⟨hu, I2.hok.fresh (Nat.le_refl _), ?_, I2.nofs (Nat.le_refl _), fun v e => by cases e⟩
      exact Nat.ne_of_gt I2.lt
    refine mw_with (i := "ValueError.__init__") (x := x) hev2 rfl ?_
    refine wpAny_mono (pa.run F.p3 _ _ _ _ _ pin hq) (fun ws s2 hh => ?_) fun e s' hs => hs
    obtain ⟨vs2, H2, I4, r4, hlen, hx4, hq4⟩ := hh
    have hu4 : s2.heap.get? h2.objs.size = some (kxs_mw "ValueError.__init__" x) := (I4.pin (h2.objs.size, kxs_mw "ValueError.__init__" x) (by simp)).1
    refine ⟨hu4, ?_⟩
    have hlw : ws.length ≤ sizeLine := by
      rw [← r4.length, sizeLine_eq]
      omega
    refine mw_call (X := ncx CX P w K mg base N F.nf fI A outer s H E) T I4 hx4 hu4 hlw fun s5 I5 => ?_
    have I6 : Inv (ncx CX P w K mg base N F.nf fI A outer s H E) [] (startF N vs [none]) H2 s5 := I5.pins_of fun p hp => absurd hp (by simp)
    refine wpAt_of_wpAny (wpAny_mono (pb.run [] s5 _ H2 _ I6 hq4) (fun fl s' hs => ?_) fun e s' hs => hs)
    have fin : ∀ {σ' : L2.St} {H' : Hp} {v : V} {u : Value}, Inv (ncx CX P w K mg base N F.nf fI A outer s H E) [] σ' H' s' → L2.RelV v u → Q v H' → CE outer P w H s Q u s' :=
      fun {σ' H' v u} J rv q => ⟨v, H', J.os, J.bare, J.base, J.hok, rv, q⟩
    cases fl with
    | ret u =>
      obtain ⟨v, σ', H', J, rv, q⟩ := hs
      exact fin J rv q
    | next =>
      obtain ⟨σ', H', J, q⟩ := hs
      exact fin (v := V.non) (u := Value.none) J rfl q
    | brk =>
      obtain ⟨_, _, _, q⟩ := hs
      exact False.elim q
    | cont =>
      obtain ⟨_, _, _, q⟩ := hs
      exact False.elim q
end XS
namespace XS
open PySem L2 NdefX
/-- the words of an __init__ that begins with super().__init__(e) -/
def supOf (st : Stmt) (qual : Str) (cda cc : Addr) : SupFn := match defBody st with
  | .Expr (.Call (.Attribute (.Call (.Name _ p0) _ _ p1) _ p2) (a :: _) _ p3) p4 :: rest => ⟨qual, defArgs st, rest, defScope st, cda, cc, a, p0, p1, p2, p3, p4⟩
  | _ => ⟨qual, defArgs st, [], defScope st, cda, cc, .Name "x" ⟨0, 0, 0, 0⟩, ⟨0, 0, 0, 0⟩, ⟨0, 0, 0, 0⟩, ⟨0, 0, 0, 0⟩, ⟨0, 0, 0, 0⟩, ⟨0, 0, 0, 0⟩⟩
/-- what the written part says of the class at C and of its __init__ at fI -/
structure Exn (prog : Program) (K : PySem.W.Frag) (mg : Str → Option Value) (C fI : Addr) (n1 n2 : Str) : Prop where
  oex : OexC K C
  n1 : PySem.W.findIn K (.ref C) n1 = some none
  n2 : PySem.W.findIn K (.ref C) n2 = some none
  iC : PySem.W.findIn K (.ref C) "__init__" = some (some (.ref fI))
  tI : PySem.W.typeIn K (.ref fI) = some (.type "function")
  xf : XfC K C
  te : PySem.W.exmOne K (.ref C) (.ref C) = some true
/-- the end of C(e, ..) as the caller has it -/
theorem made_two {C : Addr} {n1 n2 : Str} {v1 v2 : V} {H : Hp} {a d : Addr} (hne : d ≠ a) (ha : H a = none) :
    upd (del (upd (upd (upd (upd H a (exo a C none)) d (exd d [(n1, v1)])) a (exo a C (some d))) d (exd d [(n2, v2), (n1, v1)])) a) d (.xd [(n2, v2), (n1, v1)]) = upd H d (.xd [(n2, v2), (n1, v1)]) := by
  funext b
  by_cases hb : b = d
  · rw [hb, upd_same, upd_same]
  · rw [upd_ne hb, upd_ne hb]
    by_cases hc : b = a
    · rw [hc, del_same, ha]
    · rw [del_ne hc, upd_ne hb, upd_ne hc, upd_ne hb, upd_ne hc]
section
variable {X : Cx} {C fI : Addr} {n1 n2 x : Str} {e : Expr} {es : List Expr} {ta : TA} {p pos pos2 : Pos} {fd : FuncData} {k : Nat}
end
end XS
namespace XS
open PySem L2 NdefX
/-- an __init__(self, n1, n2) of an own exception: f'..' of both to super's, then both are stored -/
def spTwoI (C : Addr) (n1 n2 : Str) : Sp := fun vs H Q _ => ∃ a v1 v2, vs = [.ref a, v1, v2] ∧ H a = some (exo a C none) ∧ (∃ i : Int, v1 = .int i ∧ i.natAbs.log2 < 1920) ∧ (∃ k : Str, v2 = .str k ∧ k.length ≤ 100000) ∧
  ∀ d, H d = none → d ≠ a → Q .non (upd (upd (upd H d (exd d [(n1, v1)])) a (exo a C (some d))) d (exd d [(n2, v2), (n1, v1)]))
section
variable {X : Cx} {C fI : Addr} {n1 n2 x : Str} {e : Expr} {es : List Expr} {ta : TA} {p pos pos2 : Pos} {fd : FuncData} {k : Nat}
/-- raise C(e1, e2) -/
theorem ps_raise2I {W : WX} (hc : X.calm = true) (T : Exn X.prog X.K X.mg C fI n1 n2) (F : FnOk X.prog X.w X.K X.mg X.base CX0 k fI fd ["self", n1, n2] (spTwoI C n1 n2)) (hr : Room (k + 1) X.A) (tk : Takes X W) (hb : Binds X.K fd ["self", n1, n2] []) (hg : Gl X x) (hm : X.mg x = some (.ref C)) (ha : PA X (e :: es) ta)
    (hdb : (x == ("__debug__" : Str)) = false := by decide) (he : starEach (e :: es) X.env = (false, eval e X.env) :: starEach es X.env := by rfl) (hpl : (backTo pos (starEach es X.env)).any (·.1) = false := by rfl) :
    PS X (.Raise (some (.Call (.Name x p) (e :: es) [] pos)) none pos2) (fun _ σ H => tMkO C (spTwoI C n1 n2) [] ta σ H fun cls d H' => W cls d σ H') := ps_raise (pos := pos2) hc tk (pmk_oex (e := e) (es := es) (p := p) (pos := pos) T.oex T.iC T.tI F hr hb .nil pass0 hg hm ha hdb he hpl)
/-- .. its reading, behind the arguments' -/
theorem made2I {k1 : Int} {k2 : Str} {H1 : Hp} {Q : XK} (z1 : k1.natAbs.log2 < 1920) (z2 : k2.length ≤ 100000) (w : ∀ d, H1 d = none → Q (.ref C) (some d) (upd H1 d (.xd [(n2, .str k2), (n1, .int k1)]))) :
    ([.int k1, .str k2] : List V).length ≤ 1000 ∧ ∀ a, H1 a = none → spTwoI C n1 n2 (.ref a :: ([.int k1, .str k2] ++ [])) (upd H1 a (exo a C none))
      (fun v H2 => v = .non ∧ ∃ (d : Addr) (fs : List (Str × V)), H2 a = some (exo a C (some d)) ∧ H2 d = some (exd d fs) ∧ H1 d = none ∧ Q (.ref C) (some d) (upd (del H2 a) d (.xd fs))) (fun _ _ _ => False) := by
  refine ⟨by show 2 ≤ 1000; omega, fun a ha => ?_⟩
  refine ⟨a, .int k1, .str k2, rfl, upd_same, ⟨_, rfl, z1⟩, ⟨_, rfl, z2⟩, fun d hd hne => ⟨rfl, d, _, ?_, upd_same, ?_, ?_⟩⟩
  · rw [upd_ne (Ne.symm hne)]
    exact upd_same
  · rw [upd_ne hne] at hd
    exact hd
  · rw [upd_ne hne] at hd
    rw [made_two hne ha]
    exact w d hd
end
end XS
namespace PySem.W
open PySem PySem.Spec PySem.Calls PyProof.Rows
section
variable {prog : Program} {w : World} {A : Around} {E : Value → Shared → Prop} {s : Shared} {K : Frag} {x D : Addr} {ox : Obj}
theorem xs_findObj {C : Addr} {od : Option Obj} {name : Str} {a g : Value} (hc : (clsIn K C).isSome = true) (ha : findIn K (.ref C) name = some (some a)) (hg : specialIn K a "__get__" = some (some g)) (ht : takesIn K a = some true) : findObj K C od name = some (.bind g a) := by
  obtain ⟨cd, hc⟩ := Option.isSome_iff_exists.mp hc
  unfold findObj
  rw [hc, Option.bind_some, ha, Option.bind_some]
  simp [hg, ht]
theorem xs_class {Q : Option Value → Shared → Prop} (hga : findIn K (.ref D) "__getattribute__" = some (some (.builtin "BaseException.__getattribute__"))) (hgt : findIn K (.ref D) "__getattr__" = some none) (hsub : subIn K (.ref D) (.type "BaseException") = some true)
    (hdct : hasDictIn K D = true) (ha : findIn K (.ref D) "__class__" = some (some (.builtin "object.__class__")))
    (hn : specialIn K (.builtin "object.__class__") "__get__" = some (some (.builtin "getset_descriptor.__get__"))) (htk : takesIn K (.builtin "object.__class__") = some true) (hm : mroIn K D (.type "object") = some true)
    {odx : Option Obj} (X : K.In s.heap) (I : InstAt s.heap x ox D odx) (h : Q (some (.ref D)) { s with toks := s.toks + 1 }) : wpAny (model prog w) A (getAttr? (.ref x) "__class__") Q E s := by
  have hf : findObj K D odx "__class__" = some (.bind (.builtin "getset_descriptor.__get__") (.builtin "object.__class__")) := xs_findObj (by obtain ⟨cd, hc, _⟩ := any_some hdct; rw [hc]; rfl) ha hn htk
  obtain ⟨hp, g, d, t, os⟩ := s
  have L0 := I.type (M := model prog w)
  have L1 := looks_findIn (M := model prog w) X hga
  have L2 := looks_findIn (M := model prog w) X hgt
  have L3 := looks_find (M := model prog w) X I hf
  have sub : Looks (model prog w) hp (isInstance (.ref x) (.type "BaseException")) true := L0.andThen (looks_subIn X hsub)
  have hx0 : (false && onTheHeap (Value.builtin "BaseException.__getattribute__")) = false := rfl
  have hx2 : (Value.builtin "BaseException.__getattribute__" == Value.builtin "object.__getattribute__") = false := by decide +kernel
  have hx1 : (onTheHeap (Value.ref D) && Value.builtin "BaseException.__getattribute__" == Value.builtin "object.__getattribute__") = false := by rw [hx2]; rfl
  unfold getAttr? getAttrBy? getAttrBy
  refine wpAny_bind (wpAny_mkText (wpAny_bind (wpAny_attempt (wpAny_holding (wpAny_bind (L0.at (wpAny_bind (L1.at ?_))))))))
  show wpAny _ _ (if (onTheHeap (Value.ref D) && Value.builtin "BaseException.__getattribute__" == Value.builtin "object.__getattribute__") = true then _ else _) _ _ _
  rw [hx1, if_neg Bool.false_ne_true]
  unfold getAttrByItsOwn hookBefore
  refine wpAny_bind ?_
  rw [if_pos (show onTheHeap (Value.ref D) = true from rfl)]
  refine L2.at ?_
  refine wpAny_bind (wpAny_attempt (wpAny_holding ?_))
  unfold callGetattribute
  rw [hx0, if_neg Bool.false_ne_true]
  unfold boundAndCalled
  rw [PySem.F.excAttr_ValueError.ga.bind (.ref x)]
  refine wpAny_bind (wpAny_pure ?_)
  show wpAny _ _ (call (.builtin "BaseException.__getattribute__") [.ref x, .str "__class__" t]) _ _ _
  refine wpAny_call (codeAny_call_builtin PySem.F.excAttr_ValueError.ga.plain PySem.F.entry_bexc_ga ?_)
  refine @check_slot (model prog w) _ _ ⟨hp, g, d, t + 1, os⟩ "BaseException.__getattribute__" "BaseException" "__getattribute__" (.ref x) [.str "__class__" t] [] _ (by decide +kernel) (by decide +kernel) sub (PySem.F.args_bexc_ga (.ref x) (.str "__class__" t)) ?_
  unfold Builtin.«object.__getattribute__»
  refine wpAny_bind (wpAny_of_eq (a := ((Value.ref x : Value), [Value.str "__class__" t])) (by first | rfl | (simp only [slotArgs]; rfl)) ?_)
  refine wpAny_bind (wpAny_pure (wpAny_bind (L0.at (wpAny_bind (L3.at ?_)))))
  show wpAny _ _ (holding [Value.builtin "object.__class__"] (call (.builtin "getset_descriptor.__get__") [.builtin "object.__class__", .ref x, .ref D]) >>= ret) _ _ _
  refine wpAny_bind (wpAny_holding (wpAny_call (class_get (s := ⟨hp, g, d, t + 1, os⟩) (ox := ox) (od := odx) X I hm ?_)))
  refine wpAny_pure ?_
  show wpAny _ _ (handedOut (.ref D)) _ _ _
  rw [handedOut_of (v := .ref D) rfl]
  first
    | exact wpAny_pure (wpAny_pure h)
    | exact wpAny_pure h
    | exact wpAny_pure (wpAny_bind (wpAny_pure (wpAny_pure h)))
theorem xs_kitx {odx : Option Obj} (hga : findIn K (.ref D) "__getattribute__" = some (some (.builtin "BaseException.__getattribute__"))) (hgt : findIn K (.ref D) "__getattr__" = some none) (hsub : subIn K (.ref D) (.type "BaseException") = some true) (hdct : hasDictIn K D = true) (ha : findIn K (.ref D) "__class__" = some (some (.builtin "object.__class__")))
    (hn : specialIn K (.builtin "object.__class__") "__get__" = some (some (.builtin "getset_descriptor.__get__"))) (htk : takesIn K (.builtin "object.__class__") = some true) (hm : mroIn K D (.type "object") = some true) :
    KitX K (.ref x) (.ref D) (fun h => InstAt h x ox D odx) where
  ty := fun _ _ _ I => I.type
  it := fun _ _ X _ => by
    obtain ⟨cdD, hcD, _⟩ := any_some hdct
    unfold clsIn at hcD
    split at hcD
    · rename_i c' d' cd' sl' ho
      intro A' Q' E' s' k q
      unfold isType loadHead
      exact wpAny_bind (wpAny_loadPart (k _ _ (X _ _ ho)) (wpAny_pure q))
    · cases hcD
  ne := fun h tp dd its n sl X htp => by
    obtain ⟨cdD, hcD, _⟩ := any_some hdct
    refine Bool.eq_false_iff.mpr fun q => ?_
    have e : D = tp := Value.ref.inj (beq_iff_eq.mp q)
    subst e
    unfold clsIn at hcD
    split at hcD
    · rename_i c' d' cd' sl' ho
      have z := (X _ _ ho).symm.trans htp
      cases z
    · cases hcD
  ca := fun X I k => xs_class hga hgt hsub hdct ha hn htk hm X I k
end
end PySem.W
namespace L2
open PySem PySem.Spec PyProof.Rows
/-- isinstance(e, c), e the exception that the suite holds, with fields of its own -/
def rIsED (K : PySem.W.Frag) (D a : Addr) (cls : Value) (d : Option Addr) : List V → Hp → VK → Prop := fun xs H Q => ∃ (c : V) (cv : Value) (b : Bool) (dd : Addr) (fs : List (Str × V)), cls = .ref D ∧ d = some dd ∧ xs = [.ref a, c] ∧ (∀ u, RelV c u → u = cv) ∧ H dd = some (.xd fs) ∧ PySem.W.kitOne K (.ref D) cv = some b ∧ Q (.bl b) H
theorem call_isED {X : Cx} {a D : Addr} {oe : Obj} {cls : Value} {d : Option Addr} {pn : List (Addr × Obj)} (C : ExcC X.K D) (hz : Zc cls d oe) (hf : ∃ vs, oe.data = .fields vs) : CallR (X.suite a ((a, oe) :: pn)) (.builtin "isinstance") (rIsED X.K D a cls d) := by
  intro pins s σ H xs us Q I r h
  obtain ⟨c, cv, b, dd, fs, rfl, rfl, rfl, hcv, hdd, e, q⟩ := h
  cases r with
  | cons rx rr =>
    cases rr with
    | cons rt rr =>
      cases rr
      cases rx
      have ec := hcv _ rt
      subst ec
      obtain ⟨hget, _⟩ := I.pin (a, oe) (List.mem_append.mpr (.inl List.mem_cons_self))
      obtain ⟨vs, hv⟩ := hf
      have hx : ObjOk X.prog X.w H s.heap dd (.xd fs) := I.hok dd _ hdd
      obtain ⟨mA, hns, hr⟩ := hx
      obtain ⟨od, ho, hl⟩ := lookIn_ns hns
      have J : PySem.W.InstAt s.heap a oe D (some od) := ⟨hget, hz.1, by unfold PySem.W.notCls; rw [hv] <;> rfl, by rw [hz.2]; exact ho⟩
      exact PySem.W.kia_one (PySem.W.xs_kitx C.hg C.hk C.hs C.hd C.ha C.hn C.ht C.hm) I.kIn J e (fun z => nomatch z) fun tk => ⟨.bl b, H, I.kept (t' := tk) fun _ _ z => z, rfl, q⟩
end L2
/-! own text: a dict whose keys are pairs of a mark (is it a bool?) and a key: null, a bool, a number, a text -/
namespace XT
open PySem PySem.Spec PyProof.Rows L2
def fk : V → NestedKey
  | .bl b => .num (if b = true then 1 else 0) | .int i => .num i | .str x => .text x | _ => .none
def isB : V → Bool
  | .bl _ => true | _ => false
def tk (k : V) : NestedKey := .tup [.num (if isB k = true then 1 else 0), fk k]
def keyOk : V → Bool
  | .non | .bl _ | .int _ | .str _ => true | _ => false
theorem tk_inj {a b : V} (ha : keyOk a = true) (hb : keyOk b = true) (h : tk a = tk b) : a = b := by
  unfold tk at h
  injection h with h
  injection h with h1 h2
  injection h2 with h2 _
  injection h1 with h1
  cases a <;> cases b <;> simp_all [fk, isB, keyOk]
  case bl.bl x y => cases x <;> cases y <;> simp_all
theorem tk_depth (k : V) : (tk k).depth ≤ 8 := by
  cases k <;> simp [tk, fk, NestedKey.depth, NestedKey.depthAll]
abbrev Ent := V × Addr × V
abbrev EV : List Ent → List (NestedKey × Addr × Value) → Prop := Paired fun p q => tk p.1 = q.1 ∧ p.2.1 = q.2.1 ∧ RelV p.2.2 q.2.2
def TabO (P : Program) (w : World) (a : Addr) (es : List Ent) : HO := .ext fun h => (a == sysModules) = false ∧ ∃ xs o ds ep, EV es xs ∧ h.get? a = some o ∧ o.ExactDict ∧ o.data = .dict ds ep ∧ ds.toList = xs.map (entryOfKey (nestedKind P w)) ∧ (xs.map (·.1)).Nodup
structure TabAt (P : Program) (w : World) (H : Hp) (a : Addr) (es : List Ent) : Prop where
  at_ : H a = some (TabO P w a es)
  keys : ∀ e ∈ es, keyOk e.1 = true ∧ H e.2.1 = some (.tup [.bl (isB e.1), e.1])
  len : es.length ≤ 1000000
def valT (es : List Ent) (k : V) : Option V := (es.find? fun e => decide (e.1 = k)).map (·.2.2)
def putT (es : List Ent) (k : V) (b : Addr) (v : V) : List Ent := if (valT es k).isSome = true then es.map (fun e => if e.1 = k then (e.1, e.2.1, v) else e) else es ++ [(k, b, v)]
def dropT (es : List Ent) (k : V) : List Ent := es.filter fun e => decide (e.1 ≠ k)
theorem key_is {P : Program} {w : World} {H : Hp} {h : Heap} {b : Addr} {k : V} (ok : HOk P w H h) (hk : keyOk k = true) (e : H b = some (.tup [.bl (isB k), k])) : (nestedKind P w).is h (tk k) b := by
  obtain ⟨_, its, r, o, h1, h2, n, h3⟩ := (show ObjOk P w H h b (.tup [.bl (isB k), k]) from ok b _ e)
  refine ⟨.tup h1 h2 h3 ?_, tk_depth k⟩
  cases r with
  | cons r1 r2 =>
    cases r2 with
    | cons r2 r3 =>
      cases r3
      cases (show _ = Value.bool (isB k) from r1)
      refine .cons (.bool rfl) (.cons ?_ .nil)
      cases k with
      | non => cases (show _ = Value.none from r2); exact .none
      | bl b => cases (show _ = Value.bool b from r2); exact .bool rfl
      | int i => obtain ⟨t, rfl⟩ := r2; exact .int i t
      | str x => obtain ⟨t, rfl⟩ := r2; exact .text x t
      | _ => exact nomatch hk
theorem EV.val {es : List Ent} {xs : List (NestedKey × Addr × Value)} (r : EV es xs) {k : V} (hk : keyOk k = true) (he : ∀ e ∈ es, keyOk e.1 = true) : RelO (valT es k) ((atKey xs (tk k)).map (·.2)) := by
  induction r with
  | nil => exact True.intro
  | @cons p q ps qs h t ih =>
    obtain ⟨h1, _, h2⟩ := h
    have ih := ih fun e m => he e (List.mem_cons_of_mem _ m)
    unfold valT at ih ⊢
    by_cases e : p.1 = k
    · have e' : q.1 = tk k := by rw [← h1, e]
      have b : atKey (q :: qs) (tk k) = some q.2 := by simp [atKey, List.find?_cons, e']
      rw [b, List.find?_cons, show decide (p.1 = k) = true from decide_eq_true e]
      exact h2
    · have e' : ¬ q.1 = tk k := fun z => e (tk_inj (he p (List.mem_cons_self ..)) hk (h1.trans z))
      have b : atKey (q :: qs) (tk k) = atKey qs (tk k) := by simp [atKey, List.find?_cons, e']
      rw [b, List.find?_cons, show decide (p.1 = k) = false from decide_eq_false e]
      exact ih
theorem EV.put {es : List Ent} {xs : List (NestedKey × Addr × Value)} (r : EV es xs) {k : V} {b : Addr} {v : V} {u : Value} (hk : keyOk k = true) (he : ∀ e ∈ es, keyOk e.1 = true) (rv : RelV v u) : EV (putT es k b v) (storedH xs (tk k) b u) := by
  have e : (valT es k).isSome = (atKey xs (tk k)).isSome := by
    rw [(r.val hk he).isSome_eq, Option.isSome_map]
  unfold putT storedH
  rw [e]
  by_cases q : (atKey xs (tk k)).isSome = true
  · rw [if_pos q, if_pos q]
    clear e q
    induction r with
    | nil => exact .nil
    | @cons p q ps qs h t ih =>
      rw [List.map_cons, List.map_cons]
      refine .cons ?_ (ih fun e m => he e (List.mem_cons_of_mem _ m))
      obtain ⟨h1, h2, h3⟩ := h
      unfold putAt
      by_cases e : p.1 = k
      · rw [if_pos e, if_pos (by rw [← h1, e])]
        exact ⟨h1, h2, rv⟩
      · rw [if_neg e, if_neg (fun z => e (tk_inj (he p (List.mem_cons_self ..)) hk (h1.trans z)))]
        exact ⟨h1, h2, h3⟩
  · rw [if_neg q, if_neg q]
    exact Paired.snoc r ⟨rfl, rfl, rv⟩
theorem EV.drop {es : List Ent} {xs : List (NestedKey × Addr × Value)} (r : EV es xs) {k : V} (hk : keyOk k = true) (he : ∀ e ∈ es, keyOk e.1 = true) : EV (dropT es k) (withoutH xs (tk k)) := by
  unfold dropT withoutH
  induction r with
  | nil => exact .nil
  | @cons p q ps qs h t ih =>
    have ih := ih fun e m => he e (List.mem_cons_of_mem _ m)
    obtain ⟨h1, h2, h3⟩ := h
    rw [List.filter_cons, List.filter_cons]
    by_cases e : p.1 = k
    · have a : ¬ decide (p.1 ≠ k) = true := by simp [e]
      have b : ¬ decide (q.1 ≠ tk k) = true := by simp [← h1, e]
      rw [if_neg a, if_neg b]
      exact ih
    · have e' : ¬ q.1 = tk k := fun z => e (tk_inj (he p (List.mem_cons_self ..)) hk (h1.trans z))
      have a : decide (p.1 ≠ k) = true := by simp [e]
      have b : decide (q.1 ≠ tk k) = true := by simp [e']
      rw [if_pos a, if_pos b]
      exact .cons ⟨h1, h2, h3⟩ ih
theorem TabAt.have {P : Program} {w : World} {H : Hp} {h : Heap} {a : Addr} {es : List Ent} (T : TabAt P w H a es) (ok : HOk P w H h) : (a == sysModules) = false ∧ ∃ xs, EV es xs ∧ h.DictOfH (nestedKind P w) a xs := by
  obtain ⟨⟨hs, xs, o, ds, ep, r, h1, h2, h3, h4, h5⟩, _, _⟩ := (show ObjOk P w H h a (TabO P w a es) from ok a _ T.at_)
  refine ⟨hs, xs, r, o, ds, ep, h1, h2, h3, h4, ?_, h5⟩
  have all : ∀ {l : List Ent} {m : List (NestedKey × Addr × Value)}, EV l m → (∀ e ∈ l, keyOk e.1 = true ∧ H e.2.1 = some (.tup [.bl (isB e.1), e.1])) → ∀ x ∈ m, (nestedKind P w).is h x.1 x.2.1 := by
    intro l m q
    induction q with
    | nil => intro _ x hx; exact nomatch hx
    | @cons p q ps qs hq t ih =>
      intro hl x hx
      rcases List.mem_cons.mp hx with e | hx
      · subst e
        have := hl p (List.mem_cons_self ..)
        rw [← hq.1, ← hq.2.1]
        exact key_is ok this.1 this.2
      · exact ih (fun e m => hl e (List.mem_cons_of_mem _ m)) x hx
  exact all r T.keys
/-! ### the rules -/
def KeyAt (H : Hp) (b : Addr) (k : V) : Prop := keyOk k = true ∧ H b = some (.tup [.bl (isB k), k])
theorem TabAt.put {P : Program} {w : World} {H : Hp} {a b : Addr} {es : List Ent} {k v : V} (T : TabAt P w H a es) (hk : KeyAt H b k) (hl : es.length < 1000000) : TabAt P w (upd H a (TabO P w a (putT es k b v))) a (putT es k b v) := by
  have ne : ∀ {c : Addr} {ys : List V}, H c = some (.tup ys) → c ≠ a := fun {c ys} e z => by
    rw [z, T.at_] at e
    cases e
  refine ⟨upd_same, fun e he => ?_, ?_⟩
  · have all : keyOk e.1 = true ∧ H e.2.1 = some (.tup [.bl (isB e.1), e.1]) := by
      unfold putT at he
      split at he
      · obtain ⟨e0, h0, e1⟩ := List.mem_map.mp he
        have := T.keys e0 h0
        split at e1
        · subst e1
          exact this
        · subst e1
          exact this
      · rcases List.mem_append.mp he with he | he
        · exact T.keys e he
        · rw [List.mem_singleton] at he
          subst he
          exact hk
    exact ⟨all.1, by rw [upd_ne (ne all.2)]; exact all.2⟩
  · unfold putT
    split
    · rw [List.length_map]
      exact T.len
    · rw [List.length_append, List.length_singleton]
      omega
theorem TabAt.drop {P : Program} {w : World} {H : Hp} {a : Addr} {es : List Ent} {k : V} (T : TabAt P w H a es) : TabAt P w (upd H a (TabO P w a (dropT es k))) a (dropT es k) := by
  have ne : ∀ {c : Addr} {ys : List V}, H c = some (.tup ys) → c ≠ a := fun {c ys} e z => by
    rw [z, T.at_] at e
    cases e
  refine ⟨upd_same, fun e he => ?_, Nat.le_trans (List.length_filter_le _ _) T.len⟩
  have := T.keys e (List.mem_filter.mp he).1
  exact ⟨this.1, by rw [upd_ne (ne this.2)]; exact this.2⟩
theorem TabAt.mono {P : Program} {w : World} {H H' : Hp} {a : Addr} {es : List Ent} (T : TabAt P w H a es) (h1 : H' a = H a) (h2 : ∀ c ys, H c = some (.tup ys) → H' c = some (.tup ys)) : TabAt P w H' a es :=
  ⟨h1.trans T.at_, fun e he => ⟨(T.keys e he).1, h2 _ _ (T.keys e he).2⟩, T.len⟩
section
variable {X : Cx} {o i value : Expr} {pos pos' tpos : Pos} {td ty tv : TE}
end
end XT
/-! own text: the values of such a dict, as a list -/
namespace XT
open PySem PySem.Spec PyProof.Rows L2
section
variable {prog : Program} {w : World} {A : Around} {E : Value → Shared → Prop} {s : Shared}
end
section
variable {X : Cx} {o : Expr} {to : TE} {apos cpos : Pos}
end
end XT
/-! own text: an own exception with an __init__ of its own as a value that is kept -/
namespace XE
open PySem PySem.Spec PyProof.Rows L2
/-- the exception at a, of the class at C, its dict at d -/
structure ExAt (H : Hp) (a C d : Addr) (fs : List (Str × V)) : Prop where
  e : H a = some (exo a C (some d))
  d : H d = some (exd d fs)
section
variable {X : Cx} {e : Expr} {es : List Expr} {ta : TA} {te : TE} {p pos : Pos}
end
end XE
/-! own text: del xs[lo:hi] of a list -/
namespace XD
open PySem PySem.Spec PyProof.Rows L2
open Sem (wp)
section
variable {prog : Program} {w : World} {A : Around} {E : Value → Shared → Prop} {s : Shared}
end
variable {X : Cx} {o : Expr} {to : TE} {lo hi : Option Expr} {tl th : TO} {tpos p2 pos : Pos}
end XD
/-! own text: list(x) of a text -/
namespace XL
open PySem PySem.Spec PyProof.Rows L2 PySem.W
open Sem (wp)
section
variable {prog : Program} {w : World} {A : Around} {E : Value → Shared → Prop} {s : Shared} {x : Str} {t : Tok}
end
/-- the signs of a text, as texts -/
def signs (x : Str) : List Str := x.cps.toList.map fun c => ⟨#[c]⟩
end XL
/-! own text: zip of a list and a tuple -/
namespace XZ
open PySem PySem.Spec PyProof.Rows L2
open PySem.Sem (wp)
abbrev mH1 (h : Heap) (l1 : Addr) : Heap := h.push { cls := .type "list_iterator", data := .fields #[.ref l1, .int 0 0] }
abbrev mH2 (h : Heap) (l1 l2 : Addr) : Heap := (mH1 h l1).push { cls := .type "tuple_iterator", data := .fields #[.ref l2, .int 0 0] }
abbrev mH3 (h : Heap) (l1 l2 : Addr) : Heap := (mH2 h l1 l2).push { cls := .type "tuple", data := .seq #[.ref h.objs.size, .ref (mH1 h l1).objs.size] }
abbrev mH4 (h : Heap) (l1 l2 : Addr) : Heap := (mH3 h l1 l2).push { cls := .type "tuple", data := .seq #[.none, .none] }
abbrev mH5 (h : Heap) (l1 l2 : Addr) : Heap := (mH4 h l1 l2).push { cls := .type "zip", data := .fields #[.none, .bool false, .bool false, .ref (mH2 h l1 l2).objs.size, .ref (mH3 h l1 l2).objs.size] }
theorem meets_new (l1 l2 : Addr) (xs ys : Array Value) :
    Meets (Builtin.«zip.__new__» ⟨[.type "zip", .ref l1, .ref l2], []⟩) (fun _ R s => s.heap.IsList l1 xs ∧ s.heap.IsTuple l2 ys ∧
      R (.ok (.ret (.ref (mH4 s.heap l1 l2).objs.size))) { s with heap := mH5 s.heap l1 l2 }) :=
  .of_wp fun prog w A R s h => by
    obtain ⟨hp, g, d, tk, os⟩ := s; obtain ⟨hl1, hl2, h⟩ := h
    have hsub := sub_zip
    have hL1 : Heap.IsList (Shared.heap ⟨hp, g, d, tk, os⟩) l1 xs := hl1
    have hL2 : Heap.IsTuple (Shared.heap ⟨hp.push { cls := .type "list_iterator", data := .fields #[.ref l1, .int 0 0] }, g, d, tk, os⟩) l2 ys := Heap.IsTuple.push hl2 _
    wp_walk using wpAny_pyIter_list hL1, wpAny_pyIter_tuple hL2
    exact ⟨_, rfl, h⟩
section
variable {prog : Program} {w : World} {A : Around} {E : Value → Shared → Prop} {s : Shared}
theorem call_zipM {l1 l2 : Addr} {xs ys : Array Value} {Q : Value → Shared → Prop} (hl1 : s.heap.IsList l1 xs) (hl2 : s.heap.IsTuple l2 ys)
    (h : ∀ h', IsZip h' (s.heap.objs.size + 4) (s.heap.objs.size + 2) (s.heap.objs.size + 3) .none → IsPair h' (s.heap.objs.size + 2) (.ref s.heap.objs.size) (.ref (s.heap.objs.size + 1)) →
      IsPair h' (s.heap.objs.size + 3) .none .none → h'.IsListIter s.heap.objs.size l1 0 → h'.IsTupleIter (s.heap.objs.size + 1) l2 0 → h'.objs.size = s.heap.objs.size + 5 →
      (∀ c o, s.heap.get? c = some o → h'.get? c = some o) → Q (.ref (s.heap.objs.size + 4)) { s with heap := h' }) :
    wpAny (model prog w) A (call (.type "zip") [.ref l1, .ref l2]) Q E s := by
  refine callType_new F.called_zip (by decide) (F.typeCall_zip_2 _ _) (F.newCall_zip_2 _ _) (fun obj => F.args_object_init_3 obj _ _) F.entry_zip_new
    (meets_new l1 l2 xs ys) ⟨hl1, hl2, ?_⟩
  have z1 : (mH1 s.heap l1).objs.size = s.heap.objs.size + 1 := Heap.size_push ..
  have z2 : (mH2 s.heap l1 l2).objs.size = s.heap.objs.size + 2 := by rw [Heap.size_push, z1]
  have z3 : (mH3 s.heap l1 l2).objs.size = s.heap.objs.size + 3 := by rw [Heap.size_push, z2]
  have z4 : (mH4 s.heap l1 l2).objs.size = s.heap.objs.size + 4 := by rw [Heap.size_push, z3]
  have z5 : (mH5 s.heap l1 l2).objs.size = s.heap.objs.size + 5 := by rw [Heap.size_push, z4]
  have g5 : (mH5 s.heap l1 l2).get? (mH4 s.heap l1 l2).objs.size = some _ := Heap.get?_push_size _ rfl
  have g4 : (mH5 s.heap l1 l2).get? (mH3 s.heap l1 l2).objs.size = some _ := Heap.get?_push_of_some _ (Heap.get?_push_size _ rfl)
  have g3 : (mH5 s.heap l1 l2).get? (mH2 s.heap l1 l2).objs.size = some _ := Heap.get?_push_of_some _ (Heap.get?_push_of_some _ (Heap.get?_push_size _ rfl))
  have g2 : (mH5 s.heap l1 l2).get? (mH1 s.heap l1).objs.size = some _ := Heap.get?_push_of_some _ (Heap.get?_push_of_some _ (Heap.get?_push_of_some _ (Heap.get?_push_size _ rfl)))
  have g1 : (mH5 s.heap l1 l2).get? s.heap.objs.size = some _ := Heap.get?_push_of_some _ (Heap.get?_push_of_some _ (Heap.get?_push_of_some _ (Heap.get?_push_of_some _ (Heap.get?_push_size _ rfl))))
  show _ ∧ _
  rw [z2, z3, z4] at g5
  rw [z1, z2] at g3
  rw [z3] at g4
  rw [z1] at g2
  rw [z4]
  exact ⟨⟨_, g5, rfl⟩, h _ g5 g3 g4 ⟨_, g1, rfl, rfl⟩ ⟨_, g2, rfl, rfl⟩ z5 fun c o x =>
    Heap.get?_push_of_some _ (Heap.get?_push_of_some _ (Heap.get?_push_of_some _ (Heap.get?_push_of_some _ (Heap.get?_push_of_some _ x))))⟩
end
/-- the list at a and the tuple at b, the items in new pairs -/
def ItzM (K : PySem.W.Frag) (a b : Addr) : It :=
  ⟨fun i H => ∃ (xs ys : List V) (x y : V), SqL K H a xs ∧ SqT K H b ys ∧ xs[i]? = some x ∧ ys[i]? = some y,
    fun i H v H' => ∃ T x y, v = .ref T ∧ H T = none ∧ H' = upd H T (.tup [x, y]) ∧ (∀ xs, SqL K H a xs → xs[i]? = some x) ∧ ∀ ys, SqT K H b ys → ys[i]? = some y,
    fun i H => ∃ xs ys : List V, SqL K H a xs ∧ SqT K H b ys ∧ xs.length = i ∧ ys.length = i⟩
theorem sep2 {a b z TI TO i1 i2 : Addr} (D : ZipApart z TI TO i1 i2 a b) : ZipSep2 z TI TO i1 i2 [i1, a] [i2, b] where
  TIz := D.TIz
  TOz := D.TOz
  TITO := D.TITO
  TIi1 := D.TIi1
  mem1 := by simp
  zf1 := by simp [D.i1z.symm, D.l1z.symm]
  Tf1 := by simp [D.TOi1, D.l1TO.symm]
  TIi2 := D.TIi2
  mem2 := by simp
  zf2 := by simp [D.i2z.symm, D.l2z.symm]
  Tf2 := by simp [D.TOi2, D.l2TO.symm]
  sep1_2 := by simp [D.i12, D.l2i1.symm]
  sep2_1 := by simp [D.i12.symm, D.l1i2.symm]
theorem turn_zipM {P : Program} {w : World} {K : PySem.W.Frag} {elts : List Expr} {kk : Nat} {tpos : Pos} {a b z TI TO i1 i2 : Addr} (D : ZipApart z TI TO i1 i2 a b) :
    Turn P w K (.Tuple elts kk tpos) (ItzM K a b) [z, TI, TO, i1, i2] z (fun i h => IsZip h z TI TO .none ∧ IsPair h TI (.ref i1) (.ref i2) ∧ (∃ x y, IsPair h TO x y) ∧ h.IsListIter i1 a i ∧ h.IsTupleIter i2 b i) where
  mem := by simp
  obj := fun i h st c hc => by
    obtain ⟨hz, hTI, ⟨x, y, hTO⟩, ⟨o1, e1, _, d1⟩, ⟨o2, e2, _, d2⟩⟩ := st
    have e' : c = z ∨ c = TI ∨ c = TO ∨ c = i1 ∨ c = i2 := by simpa using hc
    rcases e' with q | q | q | q | q
    · rw [q]; exact ⟨_, hz, fun v q => nomatch q⟩
    · rw [q]; exact ⟨_, hTI, fun v q => nomatch q⟩
    · rw [q]; exact ⟨_, hTO, fun v q => nomatch q⟩
    · rw [q]; exact ⟨o1, e1, fun v q => by rw [d1] at q; cases q⟩
    · rw [q]; exact ⟨o2, e2, fun v q => by rw [d2] at q; cases q⟩
  keep := fun i h h' st k => by
    obtain ⟨hz, hTI, ⟨x, y, hTO⟩, h1, h2⟩ := st
    exact ⟨k z (by simp) _ hz, k TI (by simp) _ hTI, ⟨x, y, k TO (by simp) _ hTO⟩, h1.at fun o q => k i1 (by simp) o q, h2.at fun o q => k i2 (by simp) o q⟩
  item := by
    intro X hP hw hK hc i pins s σ H E I hf st hg
    subst hP hw hK
    obtain ⟨hz, hTI, ⟨x0, y0, hTO⟩, h1, h2⟩ := st
    obtain ⟨xs, ys, x, y, hqx, hqy, hx, hy⟩ := hg
    obtain ⟨its, rv, p, _⟩ := I.list hqx
    obtain ⟨its2, rv2, p2, _⟩ := I.tuple hqy
    obtain ⟨u, hu, ru⟩ := rv.get hx
    obtain ⟨u2, hu2, ru2⟩ := rv2.get hy
    have hzl : z < s.heap.objs.size := Heap.lt_size hz
    have lt1 : i < its.toArray.size := by
      have := (List.getElem?_eq_some_iff.mp hu).1
      simpa using this
    have lt2 : i < its2.toArray.size := by
      have := (List.getElem?_eq_some_iff.mp hu2).1
      simpa using this
    refine PySem.wpAny_pyNext_zipD2_item (sep2 D) (Draws.list (A := X.A.in1) (I.ok.hd hc) i1 a D.l1i1 its.toArray) (Draws.tuple (A := X.A.in1) (I.ok.hd hc) i2 b D.l2i2 its2.toArray) hz hTI hTO ⟨h1, p.isList⟩ ⟨h2, p2⟩ lt1 lt2 fun x1 x2 h' tk e1 e2 z' TO' st1 st2 hT hsz hk => ?_
    have ex1 : x1 = u := by
      have h3 : its[i]? = some x1 := by simpa using e1
      rw [hu] at h3
      exact (Option.some.inj h3).symm
    have ex2 : x2 = u2 := by
      have h3 : its2[i]? = some x2 := by simpa using e2
      rw [hu2] at h3
      exact (Option.some.inj h3).symm
    subst ex1 ex2
    refine ⟨_, rfl, wpAny_letOwnedTupleGo_zip (s := { s with heap := h', toks := tk }) z' fun h'' z'' sb => ?_⟩
    have hT2 : h''.get? s.heap.objs.size = some { cls := .type "tuple", data := .seq #[x1, x2] } := (sb.2 _ (Nat.ne_of_gt hzl)).trans hT
    have new : ObjOk X.prog X.w (upd H s.heap.objs.size (.tup [x, y])) h'' s.heap.objs.size (.tup [x, y]) :=
      ⟨by show 2 ≤ sizeLine; decide, [x1, x2], .cons ru (.cons ru2 .nil), ⟨_, hT2, rfl, _, rfl⟩⟩
    have I1 : Inv X pins σ (upd H s.heap.objs.size (.tup [x, y])) { s with heap := h'', toks := tk } :=
      I.turnedNew (t' := tk) (ch := [z, TI, TO, i1, i2]) (fun c o hb q => (sb.2 c (fun q' => hb (by simp [q']))).trans (hk c o (fun q' => hb (by simp [q'])) (fun q' => hb (by simp [q'])) (fun q' => hb (by simp [q'])) (fun q' => hb (by simp [q'])) q)) hf (Nat.le_refl _) new
    refine ⟨.ref s.heap.objs.size, _, I1, rfl, ⟨_, x, y, rfl, I.hok.fresh (Nat.le_refl _), rfl, fun l hl => by rw [I.list_inj hl hqx]; exact hx, fun l hl => by rw [I.tuple_inj hl hqy]; exact hy⟩, ⟨z'', ?_, ⟨x1, x2, ?_⟩, ?_, ?_⟩, fun c hcm => ?_⟩
    · exact (sb.2 _ D.TIz).trans (hk _ _ D.TIz D.TITO D.TIi1 D.TIi2 hTI)
    · exact (sb.2 _ D.TOz).trans TO'
    · exact st1.1.at fun o q => (sb.2 _ D.i1z).trans q
    · exact st2.1.at fun o q => (sb.2 _ D.i2z).trans q
    · have hlt : c < s.heap.objs.size := by
        have e' : c = z ∨ c = TI ∨ c = TO ∨ c = i1 ∨ c = i2 := by simpa using hcm
        rcases e' with q | q | q | q | q
        · rw [q]; exact hzl
        · rw [q]; exact Heap.lt_size hTI
        · rw [q]; exact Heap.lt_size hTO
        · rw [q]; obtain ⟨_, e1, _⟩ := h1; exact Heap.lt_size e1
        · rw [q]; obtain ⟨_, e2, _⟩ := h2; exact Heap.lt_size e2
      rw [upd_ne (Nat.ne_of_lt hlt)]
      exact (hf c hcm).1
  done := by
    intro X hP hw hK hc i pins s σ H E I hf st hg
    subst hP hw hK
    obtain ⟨hz, hTI, ⟨x0, y0, hTO⟩, h1, h2⟩ := st
    obtain ⟨xs, ys, hqx, hqy, l1, l2⟩ := hg
    obtain ⟨its, rv, p, _⟩ := I.list hqx
    obtain ⟨its2, rv2, p2, _⟩ := I.tuple hqy
    have m1 := rv.length
    have m2 := rv2.length
    have n1 : its.toArray.size = i := by simp; omega
    have n2 : its2.toArray.size = i := by simp; omega
    exact PySem.wpAny_pyNext_zipD2_end (sep2 D) (Draws.list (A := X.A.in1) (I.ok.hd hc) i1 a D.l1i1 its.toArray) (Draws.tuple (A := X.A.in1) (I.ok.hd hc) i2 b D.l2i2 its2.toArray) hz hTI hTO ⟨h1, p.isList⟩ ⟨h2, p2⟩ (Nat.le_of_eq n1.symm) (Nat.le_of_eq n2.symm) (.inl n1.symm) fun h' tk hk => ⟨rfl, I.turnedL (t' := tk) (ch := [z, TI, TO, i1, i2]) (fun c o hb q =>
      hk c o (fun q' => hb (by simp [q'])) (fun q' => hb (by simp [q'])) (fun q' => hb (by simp [q'])) (fun q' => hb (by simp [q'])) q) hf⟩
  self := fun A i s Q E st h => wpAny_pyIter_zip st.1 h
def iZipM (K : PySem.W.Frag) (ta : TA) : TI := fun σ H R => ta σ H fun vs H1 => ∃ a b xs ys, vs = [.ref a, .ref b] ∧ SqL K H1 a xs ∧ SqT K H1 b ys ∧ R (ItzM K a b) H1
theorem pi_zipM {X : Cx} {e e2 : Expr} {ta : TA} {p pos tpos : Pos} {elts : List Expr} {kk : Nat} (hg : Gl X "zip") (hm : X.mg "zip" = none) (ha : PA X [e, e2] ta)
    (hs : starEach [e, e2] X.env = (false, eval e X.env) :: starEach [e2] X.env := by rfl) (hpl : (backTo pos (starEach [e2] X.env)).any (·.1) = false := by rfl) :
    PI X (.Tuple elts kk tpos) (.Call (.Name "zip" p) [e, e2] [] pos) (iZipM X.K ta) := by
  refine ⟨fun pins s σ H R I h => ?_⟩
  refine Call_ (ld_blt I hg hm PyProof.Rows.boot_zip (PyProof.Rows.callWith_type1 (thn (ha.run pos pins s σ H _ I h) fun us s1 ⟨vs, H1, I1, r1, q1⟩ => ?_) hs hpl))
  obtain ⟨a, b, xs, ys, ex, hqx, hqy, q⟩ := q1
  subst ex
  cases r1 with
  | cons r rr =>
    cases rr with
    | cons r' rr =>
      cases rr
      cases r
      cases r'
      have fresh5 : ∀ c, c ∈ [s1.heap.objs.size + 4, s1.heap.objs.size + 2, s1.heap.objs.size + 3, s1.heap.objs.size, s1.heap.objs.size + 1] → FpOk X pins H1 c := fun c hcm => by
        have e' : c = s1.heap.objs.size + 4 ∨ c = s1.heap.objs.size + 2 ∨ c = s1.heap.objs.size + 3 ∨ c = s1.heap.objs.size ∨ c = s1.heap.objs.size + 1 := by simpa using hcm
        have hle : s1.heap.objs.size ≤ c := by
          rcases e' with z | z | z | z | z
          · rw [z]; exact Nat.le_add_right _ _
          · rw [z]; exact Nat.le_add_right _ _
          · rw [z]; exact Nat.le_add_right _ _
          · rw [z]; exact Nat.le_refl _
          · rw [z]; exact Nat.le_add_right _ _
        exact I1.fpOk hle (I1.hok.fresh hle)
      obtain ⟨its, rv, p1, _⟩ := I1.list hqx
      obtain ⟨its2, rv2, p2, _⟩ := I1.tuple hqy
      obtain ⟨o2, ho2, _⟩ := id p2
      refine call_zipM p1.isList (show s1.heap.IsTuple b its2.toArray from p2) fun h' hz hTI hTO h1 h2 hsz hk => wpAny_pyIter_zip hz ?_
      have I2 : Inv X pins σ H1 { s1 with heap := h' } := I1.kept (t' := s1.toks) hk
      exact ⟨s1.heap.objs.size + 4, [s1.heap.objs.size + 4, s1.heap.objs.size + 2, s1.heap.objs.size + 3, s1.heap.objs.size, s1.heap.objs.size + 1], _, _, H1, rfl, I2, turn_zipM (PySem.W.ktu_apart s1.heap.objs.size a b p1.lt (Heap.lt_size ho2)), ⟨hz, hTI, ⟨_, _, hTO⟩, h1, h2⟩, fresh5, q⟩
theorem for_zipM {K : PySem.W.Frag} {a b : Addr} {xs ys : List V} {g : TG} {tb : TS} {D : Ends} {σ : L2.St} {H : Hp} (hl : xs.length = ys.length) (Pv : Nat → L2.St → Hp → Prop) (h0 : Pv 0 σ H) (hq : ∀ i σ H, Pv i σ H → SqL K H a xs ∧ SqT K H b ys)
    (hs : ∀ (i : Nat) (x y : V) (T : Addr) (σ : L2.St) (H : Hp), xs[i]? = some x → ys[i]? = some y → Pv i σ H → H T = none → g (.ref T) σ (upd H T (.tup [x, y])) fun σ2 H2 => tb { D with nx := Pv (i + 1), ct := Pv (i + 1), bk := D.nx } σ2 H2) (hd : ∀ σ H, Pv xs.length σ H → D.nx σ H) :
    ∃ W : Nat → Nat → L2.St → Hp → Prop, (∃ m, W 0 m σ H) ∧ ∀ i m σ H, W i m σ H →
      ((ItzM K a b).stop i H ∧ D.nx σ H) ∨ ((ItzM K a b).go i H ∧ ∃ N : L2.St → Hp → Prop, (∀ σ' H', N σ' H' → ∃ m', m' < m ∧ W (i + 1) m' σ' H') ∧ ∀ v H', (ItzM K a b).yld i H v H' → g v σ H' fun σ2 H2 => tb { D with nx := N, ct := N, bk := D.nx } σ2 H2) := by
  refine ⟨fun i m σ H => m = xs.length - i ∧ i ≤ xs.length ∧ Pv i σ H, ⟨xs.length, rfl, Nat.zero_le _, h0⟩, ?_⟩
  rintro i m σ H ⟨rfl, hi, p⟩
  obtain ⟨qx, qy⟩ := hq i σ H p
  by_cases hlt : i < xs.length
  · have hx : xs[i]? = some xs[i] := List.getElem?_eq_getElem hlt
    have hlt2 : i < ys.length := by omega
    have hy : ys[i]? = some ys[i] := List.getElem?_eq_getElem hlt2
    refine .inr ⟨⟨xs, ys, _, _, qx, qy, hx, hy⟩, Pv (i + 1), fun σ' H' p' => ⟨xs.length - (i + 1), by omega, rfl, hlt, p'⟩, fun v H' y => ?_⟩
    obtain ⟨T, x', y', rfl, hT, rfl, f1, f2⟩ := y
    exact hs i x' y' T σ H (f1 xs qx) (f2 ys qy) p hT
  · have e : i = xs.length := by omega
    subst e
    exact .inl ⟨⟨xs, ys, qx, qy, rfl, hl.symm⟩, hd σ H p⟩
end XZ
/-! own text: zip of a tuple and a list -/
namespace XZt
open PySem PySem.Spec PyProof.Rows L2
open PySem.Sem (wp)
abbrev mH1 (h : Heap) (l1 : Addr) : Heap := h.push { cls := .type "tuple_iterator", data := .fields #[.ref l1, .int 0 0] }
abbrev mH2 (h : Heap) (l1 l2 : Addr) : Heap := (mH1 h l1).push { cls := .type "list_iterator", data := .fields #[.ref l2, .int 0 0] }
abbrev mH3 (h : Heap) (l1 l2 : Addr) : Heap := (mH2 h l1 l2).push { cls := .type "tuple", data := .seq #[.ref h.objs.size, .ref (mH1 h l1).objs.size] }
abbrev mH4 (h : Heap) (l1 l2 : Addr) : Heap := (mH3 h l1 l2).push { cls := .type "tuple", data := .seq #[.none, .none] }
abbrev mH5 (h : Heap) (l1 l2 : Addr) : Heap := (mH4 h l1 l2).push { cls := .type "zip", data := .fields #[.none, .bool false, .bool false, .ref (mH2 h l1 l2).objs.size, .ref (mH3 h l1 l2).objs.size] }
theorem meets_new (l1 l2 : Addr) (xs ys : Array Value) :
    Meets (Builtin.«zip.__new__» ⟨[.type "zip", .ref l1, .ref l2], []⟩) (fun _ R s => s.heap.IsTuple l1 xs ∧ s.heap.IsList l2 ys ∧
      R (.ok (.ret (.ref (mH4 s.heap l1 l2).objs.size))) { s with heap := mH5 s.heap l1 l2 }) :=
  .of_wp fun prog w A R s h => by
    obtain ⟨hp, g, d, tk, os⟩ := s; obtain ⟨hl1, hl2, h⟩ := h
    have hsub := sub_zip
    have hL1 : Heap.IsTuple (Shared.heap ⟨hp, g, d, tk, os⟩) l1 xs := hl1
    have hL2 : Heap.IsList (Shared.heap ⟨hp.push { cls := .type "tuple_iterator", data := .fields #[.ref l1, .int 0 0] }, g, d, tk, os⟩) l2 ys := Heap.IsList.push hl2 _
    wp_walk using wpAny_pyIter_tuple hL1, wpAny_pyIter_list hL2
    exact ⟨_, rfl, h⟩
section
variable {prog : Program} {w : World} {A : Around} {E : Value → Shared → Prop} {s : Shared}
theorem call_zipM {l1 l2 : Addr} {xs ys : Array Value} {Q : Value → Shared → Prop} (hl1 : s.heap.IsTuple l1 xs) (hl2 : s.heap.IsList l2 ys)
    (h : ∀ h', IsZip h' (s.heap.objs.size + 4) (s.heap.objs.size + 2) (s.heap.objs.size + 3) .none → IsPair h' (s.heap.objs.size + 2) (.ref s.heap.objs.size) (.ref (s.heap.objs.size + 1)) →
      IsPair h' (s.heap.objs.size + 3) .none .none → h'.IsTupleIter s.heap.objs.size l1 0 → h'.IsListIter (s.heap.objs.size + 1) l2 0 → h'.objs.size = s.heap.objs.size + 5 →
      (∀ c o, s.heap.get? c = some o → h'.get? c = some o) → Q (.ref (s.heap.objs.size + 4)) { s with heap := h' }) :
    wpAny (model prog w) A (call (.type "zip") [.ref l1, .ref l2]) Q E s := by
  refine callType_new F.called_zip (by decide) (F.typeCall_zip_2 _ _) (F.newCall_zip_2 _ _) (fun obj => F.args_object_init_3 obj _ _) F.entry_zip_new
    (meets_new l1 l2 xs ys) ⟨hl1, hl2, ?_⟩
  have z1 : (mH1 s.heap l1).objs.size = s.heap.objs.size + 1 := Heap.size_push ..
  have z2 : (mH2 s.heap l1 l2).objs.size = s.heap.objs.size + 2 := by rw [Heap.size_push, z1]
  have z3 : (mH3 s.heap l1 l2).objs.size = s.heap.objs.size + 3 := by rw [Heap.size_push, z2]
  have z4 : (mH4 s.heap l1 l2).objs.size = s.heap.objs.size + 4 := by rw [Heap.size_push, z3]
  have z5 : (mH5 s.heap l1 l2).objs.size = s.heap.objs.size + 5 := by rw [Heap.size_push, z4]
  have g5 : (mH5 s.heap l1 l2).get? (mH4 s.heap l1 l2).objs.size = some _ := Heap.get?_push_size _ rfl
  have g4 : (mH5 s.heap l1 l2).get? (mH3 s.heap l1 l2).objs.size = some _ := Heap.get?_push_of_some _ (Heap.get?_push_size _ rfl)
  have g3 : (mH5 s.heap l1 l2).get? (mH2 s.heap l1 l2).objs.size = some _ := Heap.get?_push_of_some _ (Heap.get?_push_of_some _ (Heap.get?_push_size _ rfl))
  have g2 : (mH5 s.heap l1 l2).get? (mH1 s.heap l1).objs.size = some _ := Heap.get?_push_of_some _ (Heap.get?_push_of_some _ (Heap.get?_push_of_some _ (Heap.get?_push_size _ rfl)))
  have g1 : (mH5 s.heap l1 l2).get? s.heap.objs.size = some _ := Heap.get?_push_of_some _ (Heap.get?_push_of_some _ (Heap.get?_push_of_some _ (Heap.get?_push_of_some _ (Heap.get?_push_size _ rfl))))
  show _ ∧ _
  rw [z2, z3, z4] at g5
  rw [z1, z2] at g3
  rw [z3] at g4
  rw [z1] at g2
  rw [z4]
  exact ⟨⟨_, g5, rfl⟩, h _ g5 g3 g4 ⟨_, g1, rfl, rfl⟩ ⟨_, g2, rfl, rfl⟩ z5 fun c o x =>
    Heap.get?_push_of_some _ (Heap.get?_push_of_some _ (Heap.get?_push_of_some _ (Heap.get?_push_of_some _ (Heap.get?_push_of_some _ x))))⟩
end
/-- the list at a and the tuple at b, the items in new pairs -/
def ItzM (K : PySem.W.Frag) (a b : Addr) : It :=
  ⟨fun i H => ∃ (xs ys : List V) (x y : V), SqT K H a xs ∧ SqL K H b ys ∧ xs[i]? = some x ∧ ys[i]? = some y,
    fun i H v H' => ∃ T x y, v = .ref T ∧ H T = none ∧ H' = upd H T (.tup [x, y]) ∧ (∀ xs, SqT K H a xs → xs[i]? = some x) ∧ ∀ ys, SqL K H b ys → ys[i]? = some y,
    fun i H => ∃ xs ys : List V, SqT K H a xs ∧ SqL K H b ys ∧ xs.length = i ∧ ys.length = i⟩
theorem sep2 {a b z TI TO i1 i2 : Addr} (D : ZipApart z TI TO i1 i2 a b) : ZipSep2 z TI TO i1 i2 [i1, a] [i2, b] where
  TIz := D.TIz
  TOz := D.TOz
  TITO := D.TITO
  TIi1 := D.TIi1
  mem1 := by simp
  zf1 := by simp [D.i1z.symm, D.l1z.symm]
  Tf1 := by simp [D.TOi1, D.l1TO.symm]
  TIi2 := D.TIi2
  mem2 := by simp
  zf2 := by simp [D.i2z.symm, D.l2z.symm]
  Tf2 := by simp [D.TOi2, D.l2TO.symm]
  sep1_2 := by simp [D.i12, D.l2i1.symm]
  sep2_1 := by simp [D.i12.symm, D.l1i2.symm]
theorem turn_zipM {P : Program} {w : World} {K : PySem.W.Frag} {elts : List Expr} {kk : Nat} {tpos : Pos} {a b z TI TO i1 i2 : Addr} (D : ZipApart z TI TO i1 i2 a b) :
    Turn P w K (.Tuple elts kk tpos) (ItzM K a b) [z, TI, TO, i1, i2] z (fun i h => IsZip h z TI TO .none ∧ IsPair h TI (.ref i1) (.ref i2) ∧ (∃ x y, IsPair h TO x y) ∧ h.IsTupleIter i1 a i ∧ h.IsListIter i2 b i) where
  mem := by simp
  obj := fun i h st c hc => by
    obtain ⟨hz, hTI, ⟨x, y, hTO⟩, ⟨o1, e1, _, d1⟩, ⟨o2, e2, _, d2⟩⟩ := st
    have e' : c = z ∨ c = TI ∨ c = TO ∨ c = i1 ∨ c = i2 := by simpa using hc
    rcases e' with q | q | q | q | q
    · rw [q]; exact ⟨_, hz, fun v q => nomatch q⟩
    · rw [q]; exact ⟨_, hTI, fun v q => nomatch q⟩
    · rw [q]; exact ⟨_, hTO, fun v q => nomatch q⟩
    · rw [q]; exact ⟨o1, e1, fun v q => by rw [d1] at q; cases q⟩
    · rw [q]; exact ⟨o2, e2, fun v q => by rw [d2] at q; cases q⟩
  keep := fun i h h' st k => by
    obtain ⟨hz, hTI, ⟨x, y, hTO⟩, h1, h2⟩ := st
    exact ⟨k z (by simp) _ hz, k TI (by simp) _ hTI, ⟨x, y, k TO (by simp) _ hTO⟩, h1.at fun o q => k i1 (by simp) o q, h2.at fun o q => k i2 (by simp) o q⟩
  item := by
    intro X hP hw hK hc i pins s σ H E I hf st hg
    subst hP hw hK
    obtain ⟨hz, hTI, ⟨x0, y0, hTO⟩, h1, h2⟩ := st
    obtain ⟨xs, ys, x, y, hqx, hqy, hx, hy⟩ := hg
    obtain ⟨its, rv, p, _⟩ := I.tuple hqx
    obtain ⟨its2, rv2, p2, _⟩ := I.list hqy
    obtain ⟨u, hu, ru⟩ := rv.get hx
    obtain ⟨u2, hu2, ru2⟩ := rv2.get hy
    have hzl : z < s.heap.objs.size := Heap.lt_size hz
    have lt1 : i < its.toArray.size := by
      have := (List.getElem?_eq_some_iff.mp hu).1
      simpa using this
    have lt2 : i < its2.toArray.size := by
      have := (List.getElem?_eq_some_iff.mp hu2).1
      simpa using this
    refine PySem.wpAny_pyNext_zipD2_item (sep2 D) (Draws.tuple (A := X.A.in1) (I.ok.hd hc) i1 a D.l1i1 its.toArray) (Draws.list (A := X.A.in1) (I.ok.hd hc) i2 b D.l2i2 its2.toArray) hz hTI hTO ⟨h1, p⟩ ⟨h2, p2.isList⟩ lt1 lt2 fun x1 x2 h' tk e1 e2 z' TO' st1 st2 hT hsz hk => ?_
    have ex1 : x1 = u := by
      have h3 : its[i]? = some x1 := by simpa using e1
      rw [hu] at h3
      exact (Option.some.inj h3).symm
    have ex2 : x2 = u2 := by
      have h3 : its2[i]? = some x2 := by simpa using e2
      rw [hu2] at h3
      exact (Option.some.inj h3).symm
    subst ex1 ex2
    refine ⟨_, rfl, wpAny_letOwnedTupleGo_zip (s := { s with heap := h', toks := tk }) z' fun h'' z'' sb => ?_⟩
    have hT2 : h''.get? s.heap.objs.size = some { cls := .type "tuple", data := .seq #[x1, x2] } := (sb.2 _ (Nat.ne_of_gt hzl)).trans hT
    have new : ObjOk X.prog X.w (upd H s.heap.objs.size (.tup [x, y])) h'' s.heap.objs.size (.tup [x, y]) :=
      ⟨by show 2 ≤ sizeLine; decide, [x1, x2], .cons ru (.cons ru2 .nil), ⟨_, hT2, rfl, _, rfl⟩⟩
    have I1 : Inv X pins σ (upd H s.heap.objs.size (.tup [x, y])) { s with heap := h'', toks := tk } :=
      I.turnedNew (t' := tk) (ch := [z, TI, TO, i1, i2]) (fun c o hb q => (sb.2 c (fun q' => hb (by simp [q']))).trans (hk c o (fun q' => hb (by simp [q'])) (fun q' => hb (by simp [q'])) (fun q' => hb (by simp [q'])) (fun q' => hb (by simp [q'])) q)) hf (Nat.le_refl _) new
    refine ⟨.ref s.heap.objs.size, _, I1, rfl, ⟨_, x, y, rfl, I.hok.fresh (Nat.le_refl _), rfl, fun l hl => by rw [I.tuple_inj hl hqx]; exact hx, fun l hl => by rw [I.list_inj hl hqy]; exact hy⟩, ⟨z'', ?_, ⟨x1, x2, ?_⟩, ?_, ?_⟩, fun c hcm => ?_⟩
    · exact (sb.2 _ D.TIz).trans (hk _ _ D.TIz D.TITO D.TIi1 D.TIi2 hTI)
    · exact (sb.2 _ D.TOz).trans TO'
    · exact st1.1.at fun o q => (sb.2 _ D.i1z).trans q
    · exact st2.1.at fun o q => (sb.2 _ D.i2z).trans q
    · have hlt : c < s.heap.objs.size := by
        have e' : c = z ∨ c = TI ∨ c = TO ∨ c = i1 ∨ c = i2 := by simpa using hcm
        rcases e' with q | q | q | q | q
        · rw [q]; exact hzl
        · rw [q]; exact Heap.lt_size hTI
        · rw [q]; exact Heap.lt_size hTO
        · rw [q]; obtain ⟨_, e1, _⟩ := h1; exact Heap.lt_size e1
        · rw [q]; obtain ⟨_, e2, _⟩ := h2; exact Heap.lt_size e2
      rw [upd_ne (Nat.ne_of_lt hlt)]
      exact (hf c hcm).1
  done := by
    intro X hP hw hK hc i pins s σ H E I hf st hg
    subst hP hw hK
    obtain ⟨hz, hTI, ⟨x0, y0, hTO⟩, h1, h2⟩ := st
    obtain ⟨xs, ys, hqx, hqy, l1, l2⟩ := hg
    obtain ⟨its, rv, p, _⟩ := I.tuple hqx
    obtain ⟨its2, rv2, p2, _⟩ := I.list hqy
    have m1 := rv.length
    have m2 := rv2.length
    have n1 : its.toArray.size = i := by simp; omega
    have n2 : its2.toArray.size = i := by simp; omega
    exact PySem.wpAny_pyNext_zipD2_end (sep2 D) (Draws.tuple (A := X.A.in1) (I.ok.hd hc) i1 a D.l1i1 its.toArray) (Draws.list (A := X.A.in1) (I.ok.hd hc) i2 b D.l2i2 its2.toArray) hz hTI hTO ⟨h1, p⟩ ⟨h2, p2.isList⟩ (Nat.le_of_eq n1.symm) (Nat.le_of_eq n2.symm) (.inl n1.symm) fun h' tk hk => ⟨rfl, I.turnedL (t' := tk) (ch := [z, TI, TO, i1, i2]) (fun c o hb q =>
      hk c o (fun q' => hb (by simp [q'])) (fun q' => hb (by simp [q'])) (fun q' => hb (by simp [q'])) (fun q' => hb (by simp [q'])) q) hf⟩
  self := fun A i s Q E st h => wpAny_pyIter_zip st.1 h
def iZipM (K : PySem.W.Frag) (ta : TA) : TI := fun σ H R => ta σ H fun vs H1 => ∃ a b xs ys, vs = [.ref a, .ref b] ∧ SqT K H1 a xs ∧ SqL K H1 b ys ∧ R (ItzM K a b) H1
theorem pi_zipM {X : Cx} {e e2 : Expr} {ta : TA} {p pos tpos : Pos} {elts : List Expr} {kk : Nat} (hg : Gl X "zip") (hm : X.mg "zip" = none) (ha : PA X [e, e2] ta)
    (hs : starEach [e, e2] X.env = (false, eval e X.env) :: starEach [e2] X.env := by rfl) (hpl : (backTo pos (starEach [e2] X.env)).any (·.1) = false := by rfl) :
    PI X (.Tuple elts kk tpos) (.Call (.Name "zip" p) [e, e2] [] pos) (iZipM X.K ta) := by
  refine ⟨fun pins s σ H R I h => ?_⟩
  refine Call_ (ld_blt I hg hm PyProof.Rows.boot_zip (PyProof.Rows.callWith_type1 (thn (ha.run pos pins s σ H _ I h) fun us s1 ⟨vs, H1, I1, r1, q1⟩ => ?_) hs hpl))
  obtain ⟨a, b, xs, ys, ex, hqx, hqy, q⟩ := q1
  subst ex
  cases r1 with
  | cons r rr =>
    cases rr with
    | cons r' rr =>
      cases rr
      cases r
      cases r'
      have fresh5 : ∀ c, c ∈ [s1.heap.objs.size + 4, s1.heap.objs.size + 2, s1.heap.objs.size + 3, s1.heap.objs.size, s1.heap.objs.size + 1] → FpOk X pins H1 c := fun c hcm => by
        have e' : c = s1.heap.objs.size + 4 ∨ c = s1.heap.objs.size + 2 ∨ c = s1.heap.objs.size + 3 ∨ c = s1.heap.objs.size ∨ c = s1.heap.objs.size + 1 := by simpa using hcm
        have hle : s1.heap.objs.size ≤ c := by
          rcases e' with z | z | z | z | z
          · rw [z]; exact Nat.le_add_right _ _
          · rw [z]; exact Nat.le_add_right _ _
          · rw [z]; exact Nat.le_add_right _ _
          · rw [z]; exact Nat.le_refl _
          · rw [z]; exact Nat.le_add_right _ _
        exact I1.fpOk hle (I1.hok.fresh hle)
      obtain ⟨its, rv, p1, _⟩ := I1.tuple hqx
      obtain ⟨its2, rv2, p2, _⟩ := I1.list hqy
      obtain ⟨o1, ho1, _⟩ := id p1
      refine call_zipM (show s1.heap.IsTuple a its.toArray from p1) p2.isList fun h' hz hTI hTO h1 h2 hsz hk => wpAny_pyIter_zip hz ?_
      have I2 : Inv X pins σ H1 { s1 with heap := h' } := I1.kept (t' := s1.toks) hk
      exact ⟨s1.heap.objs.size + 4, [s1.heap.objs.size + 4, s1.heap.objs.size + 2, s1.heap.objs.size + 3, s1.heap.objs.size, s1.heap.objs.size + 1], _, _, H1, rfl, I2, turn_zipM (PySem.W.ktu_apart s1.heap.objs.size a b (Heap.lt_size ho1) p2.lt), ⟨hz, hTI, ⟨_, _, hTO⟩, h1, h2⟩, fresh5, q⟩
theorem for_zipM {K : PySem.W.Frag} {a b : Addr} {xs ys : List V} {g : TG} {tb : TS} {D : Ends} {σ : L2.St} {H : Hp} (hl : xs.length = ys.length) (Pv : Nat → L2.St → Hp → Prop) (h0 : Pv 0 σ H) (hq : ∀ i σ H, Pv i σ H → SqT K H a xs ∧ SqL K H b ys)
    (hs : ∀ (i : Nat) (x y : V) (T : Addr) (σ : L2.St) (H : Hp), xs[i]? = some x → ys[i]? = some y → Pv i σ H → H T = none → g (.ref T) σ (upd H T (.tup [x, y])) fun σ2 H2 => tb { D with nx := Pv (i + 1), ct := Pv (i + 1), bk := D.nx } σ2 H2) (hd : ∀ σ H, Pv xs.length σ H → D.nx σ H) :
    ∃ W : Nat → Nat → L2.St → Hp → Prop, (∃ m, W 0 m σ H) ∧ ∀ i m σ H, W i m σ H →
      ((ItzM K a b).stop i H ∧ D.nx σ H) ∨ ((ItzM K a b).go i H ∧ ∃ N : L2.St → Hp → Prop, (∀ σ' H', N σ' H' → ∃ m', m' < m ∧ W (i + 1) m' σ' H') ∧ ∀ v H', (ItzM K a b).yld i H v H' → g v σ H' fun σ2 H2 => tb { D with nx := N, ct := N, bk := D.nx } σ2 H2) := by
  refine ⟨fun i m σ H => m = xs.length - i ∧ i ≤ xs.length ∧ Pv i σ H, ⟨xs.length, rfl, Nat.zero_le _, h0⟩, ?_⟩
  rintro i m σ H ⟨rfl, hi, p⟩
  obtain ⟨qx, qy⟩ := hq i σ H p
  by_cases hlt : i < xs.length
  · have hx : xs[i]? = some xs[i] := List.getElem?_eq_getElem hlt
    have hlt2 : i < ys.length := by omega
    have hy : ys[i]? = some ys[i] := List.getElem?_eq_getElem hlt2
    refine .inr ⟨⟨xs, ys, _, _, qx, qy, hx, hy⟩, Pv (i + 1), fun σ' H' p' => ⟨xs.length - (i + 1), by omega, rfl, hlt, p'⟩, fun v H' y => ?_⟩
    obtain ⟨T, x', y', rfl, hT, rfl, f1, f2⟩ := y
    exact hs i x' y' T σ H (f1 xs qx) (f2 ys qy) p hT
  · have e : i = xs.length := by omega
    subst e
    exact .inl ⟨⟨xs, ys, qx, qy, rfl, hl.symm⟩, hd σ H p⟩
theorem walk_zipM {K : PySem.W.Frag} {a b : Addr} {xs ys : List V} (hn : xs.length = ys.length) : Walk (ItzM K a b) xs.length (fun H => SqT K H a xs ∧ SqL K H b ys) (YPair (fun i => xs[i]?) (fun i => ys[i]?)) := by
  refine ⟨fun i _ hi q => ?_, fun _ q => ⟨xs, ys, q.1, q.2, rfl, hn.symm⟩, fun i H v H' _ q y => ?_⟩
  · have h2 : i < ys.length := by omega
    exact ⟨xs, ys, xs[i], ys[i], q.1, q.2, by simp [hi], by simp [h2]⟩
  · obtain ⟨T, x, y', h1, h2, h3, h4, h5⟩ := y
    exact ⟨T, x, y', h1, h2, h3, h4 xs q.1, h5 ys q.2⟩
end XZt
namespace My
open PySem L2 SX XT XS XE
def top (i : Nat) : Stmt := PySem.Challenge.pw_livequill_k36_code_that_is_refused.main.body.getD i (.Pass ⟨0, 0, 0, 0⟩)
abbrev s_comment_end : Stmt := top 14
theorem sc_comment_end : FnScope ["text", "at", "newline"] ["text", "at"] (defScope s_comment_end) := ⟨rfl, rfl, rfl, by decide +kernel, rfl, by decide +kernel, by decide +kernel⟩
abbrev s_run_end : Stmt := top 15
theorem sc_run_end : FnScope ["text", "at", "signs"] ["text", "at", "signs"] (defScope s_run_end) := ⟨rfl, rfl, rfl, by decide +kernel, rfl, by decide +kernel, by decide +kernel⟩
abbrev s_lines_of : Stmt := top 17
theorem sc_lines_of : FnScope ["text", "lines", "at", "piece"] ["text"] (defScope s_lines_of) := ⟨rfl, rfl, rfl, by decide +kernel, rfl, by decide +kernel, by decide +kernel⟩
abbrev s_piece_at : Stmt := top 18
theorem sc_piece_at : FnScope ["text", "at", "sign", "end", "start"] ["text", "at"] (defScope s_piece_at) := ⟨rfl, rfl, rfl, by decide +kernel, rfl, by decide +kernel, by decide +kernel⟩
abbrev s_number_of : Stmt := top 19
theorem sc_number_of : FnScope ["text", "digits", "size"] ["text"] (defScope s_number_of) := ⟨rfl, rfl, rfl, by decide +kernel, rfl, by decide +kernel, by decide +kernel⟩
abbrev s_text_piece : Stmt := top 20
theorem sc_text_piece : FnScope ["text", "start", "signs", "at", "escaped"] ["text", "start"] (defScope s_text_piece) := ⟨rfl, rfl, rfl, by decide +kernel, rfl, by decide +kernel, by decide +kernel⟩
abbrev s_value_named : Stmt := top 25
theorem sc_value_named : FnScope ["name"] ["name"] (defScope s_value_named) := ⟨rfl, rfl, rfl, by decide +kernel, rfl, by decide +kernel, by decide +kernel⟩
abbrev s_is_bounded : Stmt := top 28
theorem sc_is_bounded : FnScope ["number"] ["number"] (defScope s_is_bounded) := ⟨rfl, rfl, rfl, by decide +kernel, rfl, by decide +kernel, by decide +kernel⟩
abbrev s_read_code : Stmt := top 32
theorem sc_read_code : FnScope ["text", "chunks", "line"] ["text"] (defScope s_read_code) := ⟨rfl, rfl, rfl, by decide +kernel, rfl, by decide +kernel, by decide +kernel⟩
abbrev s_read_line : Stmt := top 33
theorem sc_read_line : FnScope ["line", "chunks", "numbered", "row", "offset"] ["line", "chunks"] (defScope s_read_line) := ⟨rfl, rfl, rfl, by decide +kernel, rfl, by decide +kernel, by decide +kernel⟩
abbrev s_kinds_in : Stmt := top 34
theorem sc_kinds_in : FnScope ["pieces", "piece"] ["pieces"] (defScope s_kinds_in) := ⟨rfl, rfl, rfl, by decide +kernel, rfl, by decide +kernel, by decide +kernel⟩
abbrev s_begins_function : Stmt := top 35
theorem sc_begins_function : FnScope ["line"] ["line"] (defScope s_begins_function) := ⟨rfl, rfl, rfl, by decide +kernel, rfl, by decide +kernel, by decide +kernel⟩
abbrev s_is_small : Stmt := top 36
theorem sc_is_small : FnScope ["piece"] ["piece"] (defScope s_is_small) := ⟨rfl, rfl, rfl, by decide +kernel, rfl, by decide +kernel, by decide +kernel⟩
abbrev s_row_of : Stmt := top 37
theorem sc_row_of : FnScope ["pieces", "word", "shapes", "operands", "shape", "piece"] ["pieces"] (defScope s_row_of) := ⟨rfl, rfl, rfl, by decide +kernel, rfl, by decide +kernel, by decide +kernel⟩
abbrev s_fits : Stmt := top 38
theorem sc_fits : FnScope ["shape", "piece"] ["shape", "piece"] (defScope s_fits) := ⟨rfl, rfl, rfl, by decide +kernel, rfl, by decide +kernel, by decide +kernel⟩
abbrev s_is_value : Stmt := top 39
theorem sc_is_value : FnScope ["piece", "kind", "_", "value"] ["piece"] (defScope s_is_value) := ⟨rfl, rfl, rfl, by decide +kernel, rfl, by decide +kernel, by decide +kernel⟩
abbrev s_value_of : Stmt := top 40
theorem sc_value_of : FnScope ["piece", "kind", "_", "value"] ["piece"] (defScope s_value_of) := ⟨rfl, rfl, rfl, by decide +kernel, rfl, by decide +kernel, by decide +kernel⟩
abbrev s_law_cell : Stmt := top 42
theorem sc_law_cell : FnScope ["script", "k"] ["script", "k"] (defScope s_law_cell) := ⟨rfl, rfl, rfl, by decide +kernel, rfl, by decide +kernel, by decide +kernel⟩
abbrev s_law_is_integer : Stmt := top 43
theorem sc_law_is_integer : FnScope ["told"] ["told"] (defScope s_law_is_integer) := ⟨rfl, rfl, rfl, by decide +kernel, rfl, by decide +kernel, by decide +kernel⟩
abbrev s_law_begin : Stmt := top 44
theorem sc_law_begin : FnScope ["script", "k"] ["script", "k"] (defScope s_law_begin) := ⟨rfl, rfl, rfl, by decide +kernel, rfl, by decide +kernel, by decide +kernel⟩
abbrev s_law_draw : Stmt := top 45
theorem sc_law_draw : FnScope ["state", "many", "k", "cell", "prime", "mixed", "digit"] ["state", "many"] (defScope s_law_draw) := ⟨rfl, rfl, rfl, by decide +kernel, rfl, by decide +kernel, by decide +kernel⟩
abbrev s_law_pick : Stmt := top 46
theorem sc_law_pick : FnScope ["state", "row"] ["state", "row"] (defScope s_law_pick) := ⟨rfl, rfl, rfl, by decide +kernel, rfl, by decide +kernel, by decide +kernel⟩
abbrev s_law_right : Stmt := top 47
theorem sc_law_right : FnScope ["state"] ["state"] (defScope s_law_right) := ⟨rfl, rfl, rfl, by decide +kernel, rfl, by decide +kernel, by decide +kernel⟩
abbrev s_law_cut : Stmt := top 48
theorem sc_law_cut : FnScope ["state", "text", "sign", "first"] ["state"] (defScope s_law_cut) := ⟨rfl, rfl, rfl, by decide +kernel, rfl, by decide +kernel, by decide +kernel⟩
abbrev s_law_line : Stmt := top 49
theorem sc_law_line : FnScope ["state"] ["state"] (defScope s_law_line) := ⟨rfl, rfl, rfl, by decide +kernel, rfl, by decide +kernel, by decide +kernel⟩
abbrev s_law_index : Stmt := top 50
theorem sc_law_index : FnScope ["state", "many", "at"] ["state", "many"] (defScope s_law_index) := ⟨rfl, rfl, rfl, by decide +kernel, rfl, by decide +kernel, by decide +kernel⟩
abbrev s_law_told : Stmt := top 51
theorem sc_law_told : FnScope ["text", "e"] ["text"] (defScope s_law_told) := ⟨rfl, rfl, rfl, by decide +kernel, rfl, by decide +kernel, by decide +kernel⟩
abbrev s_law : Stmt := top 52
theorem sc_law : FnScope ["script", "k", "state", "text", "many", "begun", "j", "gap", "place", "kind", "behind", "line", "at", "message", "told"] ["script"] (defScope s_law) := ⟨rfl, rfl, rfl, by decide +kernel, rfl, by decide +kernel, by decide +kernel⟩
abbrev s_Chunk_init : Stmt := inClass (top 1) 0
theorem sc_Chunk_init : FnScope ["self", "number", "wanted", "rows", "scopes"] ["self", "number", "wanted", "rows", "scopes"] (defScope s_Chunk_init) := ⟨rfl, rfl, rfl, by decide +kernel, rfl, by decide +kernel, by decide +kernel⟩
abbrev s_Ref_init : Stmt := inClass (top 23) 0
theorem sc_Ref_init : FnScope ["self", "number"] ["self", "number"] (defScope s_Ref_init) := ⟨rfl, rfl, rfl, by decide +kernel, rfl, by decide +kernel, by decide +kernel⟩
abbrev s_Builtin_init : Stmt := inClass (top 24) 0
theorem sc_Builtin_init : FnScope ["self", "name"] ["self", "name"] (defScope s_Builtin_init) := ⟨rfl, rfl, rfl, by decide +kernel, rfl, by decide +kernel, by decide +kernel⟩
abbrev sx_InvalidCode : Stmt := inClass (top 8) 0
/-- where the classes stand -/
structure Ads where
  Chunk : Addr
  Ref : Addr
  Builtin : Addr
  LivequillError : Addr
  InvalidText : Addr
  InvalidCode : Addr
structure CF (K : PySem.W.Frag) (mg : Str → Option Value) (C : Addr) (nm : Str) : Prop where
  cl : Cls K C
  g : mg nm = some (.ref C)
  ty : ∀ {H : Hp} {a dx : Addr} {fs : List (Str × V)}, H a = some (.ins C dx fs) → TyX K H (.ref a) (.ref C)
structure Fx (K : PySem.W.Frag) (mg : Str → Option Value) (nm : Str) (st : Stmt) (ps : List Str) where
  f : Addr
  fd : FuncData
  F : Fun K nm nm st f fd
  b : Binds K fd ps []
  g : mg nm = some (.ref f)
structure Mx (K : PySem.W.Frag) (C : Addr) (nm qual : Str) (st : Stmt) (ps : List Str) where
  f : Addr
  fd : FuncData
  F : Fun K nm qual st f fd
  b : Binds K fd ps []
  m : Meth K C nm f
structure Ix (K : PySem.W.Frag) (C : Addr) (qual : Str) (st : Stmt) (ps : List Str) where
  f : Addr
  fd : FuncData
  F : Fun K "__init__" qual st f fd
  b : Binds K fd ps []
  m : Mk K C f
structure OwnEq (K : PySem.W.Frag) (C f : Addr) : Prop where
  at_ : PySem.W.findIn K (.ref C) "__eq__" = some (some (.ref f))
  fn : PySem.W.isFn K (.ref f) = true
structure Qx (K : PySem.W.Frag) (C : Addr) (qual : Str) (st : Stmt) (ps : List Str) where
  f : Addr
  fd : FuncData
  F : Fun K "__eq__" qual st f fd
  b : Binds K fd ps []
  m : OwnEq K C f
structure Tx (K : PySem.W.Frag) (mg : Str → Option Value) (nm : Str) (vs : List V) where
  a : Addr
  g : mg nm = some (.ref a)
  s : ∀ H, SqT K H a vs
structure XxI (P : Program) (K : PySem.W.Frag) (mg : Str → Option Value) (C : Addr) (nm n1 n2 : Str) where
  f : Addr
  fd : FuncData
  T : Exn P K mg C f n1 n2
  F : ∀ w base, FnOk P w K mg base CX0 1 f fd ["self", n1, n2] (spTwoI C n1 n2)
  b : Binds K fd ["self", n1, n2] []
  g : mg nm = some (.ref C)
  ec : ExcC K C
structure Gx (mg : Str → Option Value) (C : Addr) (nm : Str) : Prop where
  g : mg nm = some (.ref C)
/-- an __init__ whose last parameter is () if it is not written -/
structure Dx (K : PySem.W.Frag) (C : Addr) (qual : Str) (st : Stmt) (ps : List Str) where
  f : Addr
  e : Addr
  fd : FuncData
  F : FunD K "__init__" qual (defArgs st) (defBody st) (defScope st) [.ref e] [] f fd
  se : ∀ H, SqT K H e []
  ds : List Value
  vd : Vals [.ref e] ds
  b : Binds K fd ps ds
  m : Mk K C f
/-- what the written part says -/
structure Lib (P : Program) (K : PySem.W.Frag) (mg : Str → Option Value) (A : Ads) where
  z_range : mg "range" = none
  z_len : mg "len" = none
  z_int : mg "int" = none
  z_str : mg "str" = none
  z_bool : mg "bool" = none
  z_isinstance : mg "isinstance" = none
  z_list : mg "list" = none
  z_abs : mg "abs" = none
  z_min : mg "min" = none
  z_max : mg "max" = none
  z_zip : mg "zip" = none
  z_all : mg "all" = none
  c_Chunk : CF K mg A.Chunk "Chunk"
  n_Chunk_number : PySem.W.findIn K (.ref A.Chunk) "number" = some none
  n_Chunk_wanted : PySem.W.findIn K (.ref A.Chunk) "wanted" = some none
  n_Chunk_rows : PySem.W.findIn K (.ref A.Chunk) "rows" = some none
  n_Chunk_scopes : PySem.W.findIn K (.ref A.Chunk) "scopes" = some none
  c_Ref : CF K mg A.Ref "Ref"
  n_Ref_number : PySem.W.findIn K (.ref A.Ref) "number" = some none
  c_Builtin : CF K mg A.Builtin "Builtin"
  n_Builtin_name : PySem.W.findIn K (.ref A.Builtin) "name" = some none
  x_LivequillError : Gx mg A.LivequillError "LivequillError"
  x_InvalidText : Gx mg A.InvalidText "InvalidText"
  x_InvalidCode : XxI P K mg A.InvalidCode "InvalidCode" "offset" "message"
  k_InvalidCode_LivequillError : PySem.W.kitOne K (.ref A.InvalidCode) (.ref A.LivequillError) = some true
  k_InvalidCode_InvalidText : PySem.W.kitOne K (.ref A.InvalidCode) (.ref A.InvalidText) = some false
  v_LETTERS : ∃ t, mg "LETTERS" = some (.str "ABCDEFGHIJKLMNOPQRSTUVWXYZabcdefghijklmnopqrstuvwxyz_" t)
  v_DIGITS : ∃ t, mg "DIGITS" = some (.str "0123456789" t)
  v_MOST_DIGITS : ∃ t, mg "MOST_DIGITS" = some (.int 300 t)
  v_BUILTINS : Tx K mg "BUILTINS" [.str "print", .str "read", .str "str", .str "int", .str "len", .str "range", .str "kind", .str "abs", .str "min", .str "max", .str "pow", .str "gcd", .str "sqrt", .str "base", .str "parse", .str "char", .str "assert", .str "copy", .str "equals"]
  v_DOUBTFUL_BITS : ∃ t, mg "DOUBTFUL_BITS" = some (.int 997 t)
  v_MOST_NUMBER : ∃ t, mg "MOST_NUMBER" = some (.int 999999999 t)
  comment_end : Fx K mg "comment_end" s_comment_end ["text", "at"]
  run_end : Fx K mg "run_end" s_run_end ["text", "at", "signs"]
  lines_of : Fx K mg "lines_of" s_lines_of ["text"]
  piece_at : Fx K mg "piece_at" s_piece_at ["text", "at"]
  number_of : Fx K mg "number_of" s_number_of ["text"]
  text_piece : Fx K mg "text_piece" s_text_piece ["text", "start"]
  value_named : Fx K mg "value_named" s_value_named ["name"]
  is_bounded : Fx K mg "is_bounded" s_is_bounded ["number"]
  read_code : Fx K mg "read_code" s_read_code ["text"]
  read_line : Fx K mg "read_line" s_read_line ["line", "chunks"]
  kinds_in : Fx K mg "kinds_in" s_kinds_in ["pieces"]
  begins_function : Fx K mg "begins_function" s_begins_function ["line"]
  is_small : Fx K mg "is_small" s_is_small ["piece"]
  row_of : Fx K mg "row_of" s_row_of ["pieces"]
  fits : Fx K mg "fits" s_fits ["shape", "piece"]
  is_value : Fx K mg "is_value" s_is_value ["piece"]
  value_of : Fx K mg "value_of" s_value_of ["piece"]
  law_cell : Fx K mg "_law_cell" s_law_cell ["script", "k"]
  law_is_integer : Fx K mg "_law_is_integer" s_law_is_integer ["told"]
  law_begin : Fx K mg "_law_begin" s_law_begin ["script", "k"]
  law_draw : Fx K mg "_law_draw" s_law_draw ["state", "many"]
  law_pick : Fx K mg "_law_pick" s_law_pick ["state", "row"]
  law_right : Fx K mg "_law_right" s_law_right ["state"]
  law_cut : Fx K mg "_law_cut" s_law_cut ["state"]
  law_line : Fx K mg "_law_line" s_law_line ["state"]
  law_index : Fx K mg "_law_index" s_law_index ["state", "many"]
  law_told : Fx K mg "_law_told" s_law_told ["text"]
  Chunk_init : Dx K A.Chunk "Chunk.__init__" s_Chunk_init ["self", "number", "wanted", "rows", "scopes"]
  Ref_init : Ix K A.Ref "Ref.__init__" s_Ref_init ["self", "number"]
  Builtin_init : Ix K A.Builtin "Builtin.__init__" s_Builtin_init ["self", "name"]
end My
namespace Lx
/-! ### the signs -/
def isLet (c : Nat) : Bool := (decide (65 ≤ c) && decide (c ≤ 90)) || (decide (97 ≤ c) && decide (c ≤ 122)) || decide (c = 95)
def isDig (c : Nat) : Bool := decide (48 ≤ c) && decide (c ≤ 57)
def line : List Nat → Nat
  | [] => 0
  | c :: r => if c = 10 then 0 else line r + 1
theorem line_le : ∀ r, line r ≤ r.length
  | [] => Nat.le_refl _
  | c :: r => by
    unfold line
    split
    · exact Nat.zero_le _
    · exact Nat.succ_le_succ (line_le r)
/-! ### runs -/
def run (p : Nat → Bool) : List Nat → Nat
  | [] => 0
  | c :: r => if p c = true then run p r + 1 else 0
theorem run_le (p : Nat → Bool) : ∀ r, run p r ≤ r.length
  | [] => Nat.le_refl _
  | c :: r => by
    unfold run
    split
    · exact Nat.succ_le_succ (run_le p r)
    · exact Nat.zero_le _
end Lx
/-! ### the bridge: what texts' methods come to -/
namespace My
open PySem L2 SX
open C8 (pss_cut tCut cutS_slice pe_gc)
theorem at_ofN {α : Type} {xs : List α} {z : Int} {j : Nat} {v : α} (e : z = (j : Int)) (h : xs[j]? = some v) : atI xs z = some v := by
  rw [e]
  exact atI_nat h
theorem cut2 (l : List Nat) (i j : Nat) (hi : i ≤ j) : cutS (S l) (some (i : Int)) (some (j : Int)) = S ((l.drop i).take (j - i)) := by
  have e1 : HT.sIx (S l).length 0 (some (i : Int)) = min i l.length := by
    rw [HT.sIx_nat, S_len]
  have e2 : HT.sIx (S l).length (S l).length (some (j : Int)) = min j l.length := by
    rw [HT.sIx_nat, S_len]
  unfold cutS
  rw [e1, e2]
  show S ((l.drop (min i l.length)).take (min j l.length - min i l.length)) = _
  by_cases h : j ≤ l.length
  · rw [Nat.min_eq_left h, Nat.min_eq_left (by omega)]
  · by_cases h2 : i ≤ l.length
    · rw [Nat.min_eq_right (by omega), Nat.min_eq_left h2, List.take_of_length_le (by rw [List.length_drop]; omega), List.take_of_length_le (by rw [List.length_drop]; omega)]
    · rw [Nat.min_eq_right (by omega), Nat.min_eq_right (by omega), List.drop_eq_nil_of_le (Nat.le_refl _), List.drop_eq_nil_of_le (by omega)]
      simp
theorem cutA (l : List Nat) (a : Nat) : cutS (S l) (some (a : Int)) (some ((a : Int) + 1)) = S ((l.drop a).take 1) := by
  rw [show (a : Int) + 1 = ((a + 1 : Nat) : Int) by omega, cut2 l a (a + 1) (by omega), Nat.add_sub_cancel_left]
theorem cutA2 (l : List Nat) (a : Nat) : cutS (S l) (some ((a : Int) + 1)) (some ((a : Int) + 2)) = S ((l.drop (a + 1)).take 1) := by
  rw [show (a : Int) + 1 = ((a + 1 : Nat) : Int) by omega, show (a : Int) + 2 = ((a + 2 : Nat) : Int) by omega, cut2 l (a + 1) (a + 2) (by omega), show a + 2 - (a + 1) = 1 by omega]
theorem atS (l : List Nat) (a c : Nat) (h : l[a]? = some c) : atI (S l).cps.toList (a : Int) = some c := at_ofN (j := a) rfl h
theorem drop_cons {l : List Nat} {a : Nat} (h : a < l.length) : l.drop a = l[a] :: l.drop (a + 1) := List.drop_eq_getElem_cons h
theorem drop_at {l r : List Nat} {a c : Nat} (h : l.drop a = c :: r) : a < l.length ∧ l[a]? = some c ∧ l.drop (a + 1) = r := by
  have hl : a < l.length := by
    by_cases q : a < l.length
    · exact q
    · rw [List.drop_eq_nil_of_le (by omega)] at h
      cases h
  have e := drop_cons hl
  rw [e] at h
  injection h with h1 h2
  exact ⟨hl, by rw [List.getElem?_eq_getElem hl, h1], h2⟩
theorem line_eq : ∀ (r : List Nat) (k : Nat), r[k]? = some 10 → (∀ v : Nat, v < k → r[v]? ≠ some 10) → Lx.line r = k
  | [], k, h, _ => by simp at h
  | c :: r, 0, h, _ => by
    have e : c = 10 := by simpa using h
    show (if c = 10 then 0 else Lx.line r + 1) = 0
    rw [if_pos e]
  | c :: r, k + 1, h, hn => by
    have e : ¬ c = 10 := fun z => hn 0 (by omega) (by simp [z])
    show (if c = 10 then 0 else Lx.line r + 1) = k + 1
    rw [if_neg e, line_eq r k (by simpa using h) (fun v hv z => hn (v + 1) (by omega) (by simpa using z))]
theorem line_none : ∀ (r : List Nat), (∀ v : Nat, r[v]? ≠ some 10) → Lx.line r = r.length
  | [], _ => rfl
  | c :: r, hn => by
    have e : ¬ c = 10 := fun z => hn 0 (by simp [z])
    show (if c = 10 then 0 else Lx.line r + 1) = r.length + 1
    rw [if_neg e, line_none r (fun v z => hn (v + 1) (by simpa using z))]
theorem find_line (l : List Nat) (a : Nat) (ha : a ≤ l.length) : (Txt.find3 (S l) (S [10]) (a : Int) < 0 ∧ a + Lx.line (l.drop a) = l.length) ∨ (¬ Txt.find3 (S l) (S [10]) (a : Int) < 0 ∧ Txt.find3 (S l) (S [10]) (a : Int) = ((a + Lx.line (l.drop a) : Nat) : Int)) := by
  have hf : fromIndex (S l).length (a : Int) = a := by
    unfold fromIndex
    rw [if_neg (by omega)]
    omega
  have hL : (S l).length = l.length := S_len l
  have hg : ∀ v, v < l.length → ((S l).cps.getD v 0 = 10 ↔ l[v]? = some 10) := fun v hv => ⟨fun h => StrLaws.getElem?_of_getD (x := S l) (by omega) h, fun h => StrLaws.getD_of_getElem? (x := S l) h⟩
  rcases StrLaws.find3_spec (S l) 10 (a : Int) with ⟨e, h⟩ | ⟨k, e, h1, h2, h3, h4⟩
  · rw [hf] at h
    refine .inl ⟨by rw [e]; decide, ?_⟩
    rw [line_none, List.length_drop]
    · omega
    · intro v z
      rw [List.getElem?_drop] at z
      have hv := (List.getElem?_eq_some_iff.mp z).1
      exact h (a + v) (by omega) (by omega) ((hg _ hv).mpr z)
  · rw [hf] at h1 h4
    have hk : k < l.length := by omega
    have el : Lx.line (l.drop a) = k - a := by
      refine line_eq _ _ ?_ fun v hv z => ?_
      · rw [List.getElem?_drop, show a + (k - a) = k by omega]
        exact (hg k hk).mp h3
      · rw [List.getElem?_drop] at z
        have hv2 := (List.getElem?_eq_some_iff.mp z).1
        exact h4 (a + v) (by omega) (by omega) ((hg _ hv2).mpr z)
    refine .inr ⟨by rw [e]; omega, ?_⟩
    rw [e, el]
    omega
theorem drop_while (p : Nat → Bool) (l : List Nat) : l.drop (l.takeWhile p).length = l.dropWhile p := by
  have e := List.takeWhile_append_dropWhile (p := p) (l := l)
  have e2 : l.drop (l.takeWhile p).length = (l.takeWhile p ++ l.dropWhile p).drop (l.takeWhile p).length := by rw [e]
  rw [e2, List.drop_left]
theorem strip0 (l : List Nat) : Txt.lstripChars (S l) (S [48]) = S (l.dropWhile (· == 48)) := by
  unfold Txt.lstripChars
  rw [PyProof.Rows.stripBy_eq]
  refine TL.ext_tl ?_
  have e1 : stripHi (S [48]).cps.contains false (S l) (stripLo (S [48]).cps.contains true (S l)) = (S l).length := rfl
  rw [e1, TL.tl_strSub_end]
  show l.drop (l.takeWhile (S [48]).cps.contains).length = l.dropWhile (· == 48)
  rw [drop_while]
  congr 1
  funext c
  simp
  rfl
theorem join_signs (v : List Nat) : Txt.join (S []) (v.map fun c => S [c]) = S v := by
  have e : (v.map fun c => S [c]) = (v.map fun c => [c]).map S := by rw [List.map_map]; rfl
  rw [e, join_S]
  congr 1
  induction v with
  | nil => rfl
  | cons c v ih =>
    cases v with
    | nil => rfl
    | cons d v =>
      show [c] ++ [] ++ TL.joinL [] ((d :: v).map fun c => [c]) = c :: d :: v
      rw [ih (by rw [List.map_map]; rfl)]
      rfl
theorem sum_ones : ∀ v : List Nat, ((v.map fun c => S [c]).map (·.length)).sum = v.length
  | [] => rfl
  | c :: v => by
    rw [List.map_cons, List.map_cons, List.sum_cons, sum_ones v]
    show 1 + v.length = v.length + 1
    omega
def letC : List Nat := [65, 66, 67, 68, 69, 70, 71, 72, 73, 74, 75, 76, 77, 78, 79, 80, 81, 82, 83, 84, 85, 86, 87, 88, 89, 90, 97, 98, 99, 100, 101, 102, 103, 104, 105, 106, 107, 108, 109, 110, 111, 112, 113, 114, 115, 116, 117, 118, 119, 120, 121, 122, 95]
def digC : List Nat := [48, 49, 50, 51, 52, 53, 54, 55, 56, 57]
/-- what the text ESCAPES gives for a sign -/
def esc (c : Nat) : Option Nat := if c = 110 then some 10 else if c = 34 then some 34 else if c = 92 then some 92 else none
theorem in_let (c : Nat) : decide (c ∈ letC) = Lx.isLet c := by
  by_cases h : c < 128
  · exact (by decide +kernel : ∀ c, c < 128 → decide (c ∈ letC) = Lx.isLet c) c h
  · have h1 : ¬ c ∈ letC := fun z => absurd ((by decide +kernel : ∀ d ∈ letC, d < 128) c z) h
    rw [decide_eq_false h1]
    unfold Lx.isLet
    simp
    omega
theorem in_dig (c : Nat) : decide (c ∈ digC) = Lx.isDig c := by
  by_cases h : c < 128
  · exact (by decide +kernel : ∀ c, c < 128 → decide (c ∈ digC) = Lx.isDig c) c h
  · have h1 : ¬ c ∈ digC := fun z => absurd ((by decide +kernel : ∀ d ∈ digC, d < 128) c z) h
    rw [decide_eq_false h1]
    unfold Lx.isDig
    simp
    omega
theorem run_take (p : Nat → Bool) : ∀ (r : List Nat), ∀ c ∈ r.take (Lx.run p r), p c = true
  | [], c, h => by simp at h
  | d :: r, c, h => by
    by_cases hd : p d = true
    · have e : Lx.run p (d :: r) = Lx.run p r + 1 := if_pos hd
      rw [e, List.take_succ_cons] at h
      rcases List.mem_cons.mp h with rfl | h'
      · exact hd
      · exact run_take p r c h'
    · have e : Lx.run p (d :: r) = 0 := if_neg hd
      rw [e] at h
      simp at h
theorem run_congr {p q : Nat → Bool} (h : ∀ c, p c = q c) (r : List Nat) : Lx.run p r = Lx.run q r := by
  have : p = q := funext h
  rw [this]
end My
namespace My
open PySem L2 SX XT XS XE
open C8 (pss_cut tCut cutS_slice pe_gc)
def Keep (p : Addr) (H H' : Hp) : Prop := ∀ b o, H b = some o → b ≠ p → H' b = some o
theorem Same.keep {p : Addr} {H H' : Hp} (s : Same H H') : Keep p H H' := fun b o e _ => s b o e
theorem Keep.trans {p : Addr} {H H1 H2 : Hp} (a : Keep p H H1) (b : Keep p H1 H2) : Keep p H H2 := fun c o e n => b c o (a c o e n) n
theorem keep_upd {p : Addr} {H : Hp} {o : HO} : Keep p H (upd H p o) := fun b x e n => by
  rw [upd_ne n]
  exact e
theorem same_upd {H : Hp} {p : Addr} {o : HO} (h : H p = none) : Same H (upd H p o) := fun b x e => by
  rw [upd_ne (ne_of_none e h)]
  exact e
theorem lk_hit {k : Str} {v : V} {r : List (Str × V)} : ((k, v) :: r).lookup k = some v := by
  simp [List.lookup]
theorem ifF {b : Bool} {A B : Prop} (h : b = false) (q : B) : if b = true then A else B := by
  rw [h]
  exact iteF q
theorem ifT {b : Bool} {A B : Prop} (h : b = true) (q : A) : if b = true then A else B := by
  rw [h]
  exact iteT q
theorem lk_skip {k k' : Str} {v : V} {r : List (Str × V)} (h : (k == k') = false) : ((k', v) :: r).lookup k = r.lookup k := by
  simp [List.lookup, h]
theorem Same.put {H H' : Hp} {p : Addr} {o : HO} (s : Same H H') (h : H p = none) : Same H (upd H' p o) := fun b x e => by
  rw [upd_ne (ne_of_none e h)]
  exact s _ _ e
end My
namespace My
open PySem L2 SX
open C8 (pss_cut tCut cutS_slice pe_gc)
/-! ### == between values of which one has its own __eq__ -/
section
variable {prog : Program} {w : World} {A : Around} {E : Value → Shared → Prop} {s : Shared} {K : PySem.W.Frag} {x C L f : Addr} {h₀ : Heap} {m : Str → Option Value} {ox : Obj} {od : Option Obj}
end
/-- the type of a scalar or of an instance -/
inductive TyE (H : Hp) : V → Value → Prop where
  | non : TyE H .non (.type "NoneType")
  | bl (b : Bool) : TyE H (.bl b) (.type "bool")
  | int (i : Int) : TyE H (.int i) (.type "int")
  | str (x : Str) : TyE H (.str x) (.type "str")
  | ins {a C dx : Addr} {fs : List (Str × V)} (e : H a = some (.ins C dx fs)) : TyE H (.ref a) (.ref C)
end My
namespace My
open PySem L2 SX XT XS XE
open C8 (pss_cut tCut cutS_slice pe_gc)
/-! ### values -/
inductive Dv where
  | non
  | bl (b : Bool)
  | int (i : Int)
  | str (x : Str)
  | obj (n : Nat)
  | bi (x : Str)
  deriving DecidableEq
abbrev refF (n : Nat) : List (Str × V) := [("number", .int (n : Nat))]
def Has (A : Ads) (H : Hp) : V → Dv → Prop := fun v d => match d with
  | .non => v = .non
  | .bl b => v = .bl b
  | .int i => v = .int i
  | .str x => v = .str x
  | .obj n => ∃ a dx, v = .ref a ∧ H a = some (.ins A.Ref dx (refF n))
  | .bi x => ∃ a dx, v = .ref a ∧ H a = some (.ins A.Builtin dx [("name", .str x)])
/-- what is not a list stays -/
def Sv (H H' : Hp) : Prop := ∀ b u, H b = some u → (∀ xs, u ≠ .lst xs) → H' b = some u
theorem Same.sv {H H' : Hp} (s : Same H H') : Sv H H' := fun b u e _ => s b u e
theorem Sv.trans {H H1 H2 : Hp} (a : Sv H H1) (b : Sv H1 H2) : Sv H H2 := fun c u e n => b c u (a c u e n) n
theorem Keep.sv {H H' : Hp} {p : Addr} {xs : List V} (k : Keep p H H') (hp : H p = some (.lst xs)) : Sv H H' := fun b u e n => k b u e fun z => by
  rw [z, hp] at e
  exact n _ (Option.some.inj e).symm
theorem Has.sv {A : Ads} {H H' : Hp} (s : Sv H H') {v : V} {d : Dv} (h : Has A H v d) : Has A H' v d := by
  cases d with
  | obj n =>
    obtain ⟨a, dx, rfl, e⟩ := h
    exact ⟨a, dx, rfl, s _ _ e fun _ z => by cases z⟩
  | bi x =>
    obtain ⟨a, dx, rfl, e⟩ := h
    exact ⟨a, dx, rfl, s _ _ e fun _ z => by cases z⟩
  | _ => exact h
def Hs (A : Ads) (H : Hp) : List V → List Dv → Prop
  | [], [] => True
  | v :: vs, d :: ds => Has A H v d ∧ Hs A H vs ds
  | _, _ => False
theorem Hs.imp {A : Ads} {H H' : Hp} (s : ∀ v d, Has A H v d → Has A H' v d) : ∀ {vs : List V} {ds : List Dv}, Hs A H vs ds → Hs A H' vs ds
  | [], [], _ => trivial
  | _ :: _, _ :: _, h => ⟨s _ _ h.1, Hs.imp s h.2⟩
  | [], _ :: _, h => h.elim
  | _ :: _, [], h => h.elim
theorem Hs.len {A : Ads} {H : Hp} : ∀ {vs : List V} {ds : List Dv}, Hs A H vs ds → vs.length = ds.length
  | [], [], _ => rfl
  | _ :: _, _ :: _, h => congrArg (· + 1) (Hs.len h.2)
  | [], _ :: _, h => h.elim
  | _ :: _, [], h => h.elim
theorem Hs.at {A : Ads} {H : Hp} : ∀ {vs : List V} {ds : List Dv} {i : Nat} {d : Dv}, Hs A H vs ds → ds[i]? = some d → ∃ v, vs[i]? = some v ∧ Has A H v d
  | _ :: _, _ :: _, 0, _, h, e => by
    simp at e
    exact ⟨_, rfl, e ▸ h.1⟩
  | _ :: _, _ :: _, i + 1, _, h, e => by
    simp at e
    obtain ⟨v, e1, e2⟩ := Hs.at h.2 e
    exact ⟨v, by simpa using e1, e2⟩
  | [], _ :: _, _, _, h, _ => h.elim
  | _ :: _, [], _, _, h, _ => h.elim
  | [], [], _, _, _, e => by simp at e
theorem Hs.app {A : Ads} {H : Hp} : ∀ {vs us : List V} {ds es : List Dv}, Hs A H vs ds → Hs A H us es → Hs A H (vs ++ us) (ds ++ es)
  | [], _, [], _, _, h => h
  | _ :: _, _, _ :: _, _, h, g => ⟨h.1, Hs.app h.2 g⟩
  | [], _, _ :: _, _, h, _ => h.elim
  | _ :: _, _, [], _, h, _ => h.elim
theorem Hs.drop {A : Ads} {H : Hp} : ∀ {vs : List V} {ds : List Dv} (n : Nat), Hs A H vs ds → Hs A H (vs.drop n) (ds.drop n)
  | _, _, 0, h => by simpa using h
  | [], [], _ + 1, _ => trivial
  | _ :: _, _ :: _, n + 1, h => Hs.drop n h.2
  | [], _ :: _, _ + 1, h => h.elim
  | _ :: _, [], _ + 1, h => h.elim
theorem Hs.take {A : Ads} {H : Hp} : ∀ {vs : List V} {ds : List Dv} (n : Nat), Hs A H vs ds → Hs A H (vs.take n) (ds.take n)
  | _, _, 0, _ => by simp [Hs]
  | [], [], _ + 1, _ => trivial
  | _ :: _, _ :: _, n + 1, h => ⟨h.1, Hs.take n h.2⟩
  | [], _ :: _, _ + 1, h => h.elim
  | _ :: _, [], _ + 1, h => h.elim
/-! ### kinds -/
def dS : Dv → Bool
  | .str _ => true
  | _ => false
section
variable {P : Program} {w : World} {K : PySem.W.Frag} {mg : Str → Option Value} {base : Heap} {A : Ads}
/-! ### Ref, Builtin -/
def spI1 (C : Addr) (n : Str) : Sp := fun vs H Q _ => ∃ a dx v, vs = [.ref a, v] ∧ H a = some (.ins C dx []) ∧ ∀ H', Keep a H H' → H' a = some (.ins C dx [(n, v)]) → Q .non H'
theorem ok_Ref_init (L : Lib P K mg A) : FnOk P w K mg base CX0 1 L.Ref_init.f L.Ref_init.fd ["self", "number"] (spI1 A.Ref "number") := by
  refine L.Ref_init.F.ok sc_Ref_init (fun vs H Q E h => ?_) (fun cdv A' outer s H vs Q E hr h => ?_)
  · obtain ⟨a, dx, v, rfl, _⟩ := h
    rfl
  · obtain ⟨a, dx, v, rfl, ha, q⟩ := h
    refine ⟨_, (pss_one (ps_fld (pv 0) (pv 1) rfl)), ?_⟩
    exact ⟨_, rfl, _, rfl, a, A.Ref, dx, [], rfl, ha, L.c_Ref.cl, L.n_Ref_number, (by show 0 < 1000; decide), q _ keep_upd upd_same⟩
theorem ok_Builtin_init (L : Lib P K mg A) : FnOk P w K mg base CX0 1 L.Builtin_init.f L.Builtin_init.fd ["self", "name"] (spI1 A.Builtin "name") := by
  refine L.Builtin_init.F.ok sc_Builtin_init (fun vs H Q E h => ?_) (fun cdv A' outer s H vs Q E hr h => ?_)
  · obtain ⟨a, dx, v, rfl, _⟩ := h
    rfl
  · obtain ⟨a, dx, v, rfl, ha, q⟩ := h
    refine ⟨_, (pss_one (ps_fld (pv 0) (pv 1) rfl)), ?_⟩
    exact ⟨_, rfl, _, rfl, a, A.Builtin, dx, [], rfl, ha, L.c_Builtin.cl, L.n_Builtin_name, (by show 0 < 1000; decide), q _ keep_upd upd_same⟩
end
end My
namespace My
open PySem L2 SX XT XS XE XD XL
open C8 (pss_cut tCut cutS_slice pe_gc)
theorem sqt_keep {K : PySem.W.Frag} {H H' : Hp} {p r : Addr} {xs ys : List V} (hk : Keep p H H') (hp : H p = some (.lst ys)) (h : SqT K H r xs) : SqT K H' r xs := by
  rcases h with (h | ⟨ob, h⟩) | h
  · exact .inl (.inl (hk _ _ h fun z => by rw [z, hp] at h; cases h))
  · exact .inl (.inr ⟨ob, hk _ _ h fun z => by rw [z, hp] at h; cases h⟩)
  · exact .inr h
variable {P : Program} {w : World} {K : PySem.W.Frag} {mg : Str → Option Value} {base : Heap} {A : Ads}
def StL (K : PySem.W.Frag) (H : Hp) (a p : Addr) (ns : List Int) : Prop := ∃ x k : Int, H p = some (.lst [.int x, .int k, .ref a]) ∧ 0 ≤ k ∧ SqL K H a (ns.map V.int)
theorem sql_keep {H H' : Hp} {a p : Addr} {x k : Int} {ns : List Int} (hk : Keep p H H') (hp : H p = some (.lst [.int x, .int k, .ref a])) (h : SqL K H a (ns.map V.int)) : SqL K H' a (ns.map V.int) := by
  rcases h with (h | ⟨ob, h⟩) | h
  · refine .inl (.inl (hk _ _ h fun z => ?_))
    rw [z, hp] at h
    have := Option.some.inj h
    injection this with e
    match ns, e with
    | [], e => cases e
    | [_], e => simp at e
    | [_, _], e => simp at e
    | _ :: _ :: _ :: _, e => simp at e
  · refine .inl (.inr ⟨ob, hk _ _ h fun z => ?_⟩)
    rw [z, hp] at h
    cases h
  · exact .inr h
theorem StL.same {H H' : Hp} {a p : Addr} {ns : List Int} (s : Same H H') (h : StL K H a p ns) : StL K H' a p ns := by
  obtain ⟨x, k, h1, h2, h3⟩ := h
  exact ⟨x, k, s _ _ h1, h2, s.seq h3⟩
def spCell (K : PySem.W.Frag) : Sp := fun vs H Q _ => ∃ (a : Addr) (ns : List Int) (k : Int), vs = [.ref a, .int k] ∧ SqL K H a (ns.map V.int) ∧ 0 ≤ k ∧ ∀ c : Int, Q (.int c) H
theorem ok_law_cell (L : Lib P K mg A) : FnOk P w K mg base CX0 1 L.law_cell.f L.law_cell.fd ["script", "k"] (spCell K) := by
  refine L.law_cell.F.ok sc_law_cell (fun vs H Q E h => ?_) (fun cdv A' outer s H vs Q E hr h => ?_)
  · obtain ⟨a, ns, k, rfl, _⟩ := h
    rfl
  · obtain ⟨a, ns, k, rfl, hS, h0, q⟩ := h
    refine ⟨_, pss_cons (ps_if (pt_cmpR op_lt (pv 1) (pe_callB call_len_seq (by rfl) L.z_len PySem.boot_len (pa_cons (pv 0) pa_nil)) (nomark _))
        (pss_one (ps_ret (pe_ix ix_list (pv 0) (pv 1) (fun _ _ => rfl))))
        pss_nil)
      (pss_one (ps_ret pe_int)), ?_⟩
    refine ⟨_, rfl, _, rfl, a, _, rfl, .inl hS, _, _, rfl, rfl, _, rfl, ite2 (fun e => ?_) (fun e => q 0)⟩
    have e1 : k < ((ns.map V.int).length : Nat) := of_decide_eq_true e
    obtain ⟨j, rfl⟩ : ∃ j : Nat, k = (j : Int) := ⟨k.toNat, by omega⟩
    have hj : j < ns.length := by
      rw [List.length_map] at e1
      omega
    refine ⟨_, rfl, _, rfl, a, _, _, V.int ns[j], rfl, rfl, hS, atI_nat ?_, q _⟩
    rw [List.getElem?_map, List.getElem?_eq_getElem hj]
    rfl
def spBegin (K : PySem.W.Frag) : Sp := fun vs H Q _ => ∃ (a : Addr) (ns : List Int) (k : Int), vs = [.ref a, .int k] ∧ SqL K H a (ns.map V.int) ∧ 0 ≤ k ∧ ∀ H' p, H p = none → Same H H' → StL K H' a p ns → Q (.ref p) H'
theorem ok_law_begin (L : Lib P K mg A) : FnOk P w K mg base CX0 1 L.law_begin.f L.law_begin.fd ["script", "k"] (spBegin K) := by
  refine L.law_begin.F.ok sc_law_begin (fun vs H Q E h => ?_) (fun cdv A' outer s H vs Q E hr h => ?_)
  · obtain ⟨a, ns, k, rfl, _⟩ := h
    rfl
  · obtain ⟨a, ns, k, rfl, hS, h0, q⟩ := h
    refine ⟨_, pss_one (ps_ret (pe_lst (pa_cons pe_int (pa_cons (pv 1) (pa_cons (pv 0) pa_nil))))), ?_⟩
    refine ⟨_, rfl, _, rfl, (by show 3 ≤ sizeLine; decide), fun p hp => q _ p hp (same_upd hp) ⟨0, k, upd_same, h0, (same_upd hp).seq hS⟩⟩
def spDraw (K : PySem.W.Frag) : Sp := fun vs H Q _ => ∃ (a p : Addr) (ns : List Int) (many : Int), vs = [.ref p, .int many] ∧ StL K H a p ns ∧ 0 < many ∧ many.natAbs < 2 ^ 80 ∧ ∀ H' (r : Int), Keep p H H' → StL K H' a p ns → 0 ≤ r → r < many → Q (.int r) H'
theorem ok_law_draw (L : Lib P K mg A) : FnOk P w K mg base CX0 2 L.law_draw.f L.law_draw.fd ["state", "many"] (spDraw K) := by
  have GC : FnOk P w K mg base CX0 1 L.law_cell.f L.law_cell.fd ["script", "k"] (spCell K) := ok_law_cell L
  refine L.law_draw.F.ok sc_law_draw (fun vs H Q E h => ?_) (fun cdv A' outer s H vs Q E hr h => ?_)
  · obtain ⟨a, p, ns, many, rfl, _⟩ := h
    rfl
  · obtain ⟨a, p, ns, many, rfl, ⟨x, k, hp, hk, hS⟩, h0, h1, q⟩ := h
    refine ⟨_, pss_cut (ps_if (pt_cmpR op_lt (pe_ix ix_list (pv 0) pe_int (fun _ _ => rfl)) (pv 1) (nomark _))
        (pss_cons (ps_set (i := 2) sc_law_draw.nd rfl (.inl rfl) (pe_ix ix_list (pv 0) pe_int (fun _ _ => rfl)))
        (pss_cons (ps_set (i := 3) sc_law_draw.nd rfl (.inl rfl) (pe_call GC hr (by rfl) L.law_cell.g L.law_cell.F.kp L.law_cell.b .nil pass0 (pa_cons (pe_ix ix_list (pv 0) pe_int (fun _ _ => rfl)) (pa_cons (pv 2) pa_nil))))
        (pss_cons (ps_set (i := 4) sc_law_draw.nd rfl (.inl rfl) pe_int)
        (pss_cons (ps_asg (pe_op op_add (pv 2) pe_int) (pg_sub (pv 0) pe_int set_list))
        (pss_cons (ps_asg (pe_callB call_abs (by rfl) L.z_abs (by decide +kernel) (pa_cons (pv 3) pa_nil)) (pg_sub (pv 0) pe_int set_list))
        (pss_one (ps_if (pt_chain op_lt op_lt (pe_un un_neg pe_int) (pv 3) pe_int)
          (pss_cons (ps_set (i := 5) sc_law_draw.nd rfl (.inl rfl) (pe_op op_mod (pe_callTy call_int1 (by rfl) L.z_int (by decide +kernel) (pa_cons (pe_op op_add (pe_op op_mul (pv 3) pe_int) (pe_op op_mul (pe_op op_add (pv 2) pe_int) pe_int)) pa_nil)) (pv 4)))
          (pss_one (ps_asg (pe_op op_add (pe_op op_mod (pe_callTy call_int1 (by rfl) L.z_int (by decide +kernel) (pa_cons (pe_op op_add (pe_op op_add (pe_op op_mulW (pv 5) (pv 5)) (pe_op op_mul pe_int (pv 5))) (pv 2)) pa_nil)) (pv 4)) (pv 4)) (pg_sub (pv 0) pe_int set_list))))
          pss_nil)))))))
        pss_nil)
      (pss_cons (ps_set (i := 6) sc_law_draw.nd rfl (.inl rfl) (pe_op op_mod (pe_callTy call_int1 (by rfl) L.z_int (by decide +kernel) (pa_cons (pe_ix ix_list (pv 0) pe_int (fun _ _ => rfl)) pa_nil)) (pv 1)))
      (pss_cons (ps_asg (pe_op op_fdivW (pe_ix ix_list (pv 0) pe_int (fun _ _ => rfl)) (pv 1)) (pg_sub (pv 0) pe_int set_list))
      (pss_one (ps_ret (pv 6))))), ?_⟩
    let M : List (Option V) → Hp → Prop := fun σ' H' => ∃ (y2 y3 y4 y5 : Option V) (x k : Int), σ' = [some (.ref p), some (.int many), y2, y3, y4, y5, none] ∧ Keep p H H' ∧ H' p = some (.lst [.int x, .int k, .ref a]) ∧ 0 ≤ k
    refine ⟨M, ⟨_, rfl, p, _, _, _, rfl, rfl, SqL.of hp, rfl, _, rfl, _, _, rfl, rfl, _, rfl, ite2 (fun e => ?_) (fun e => ⟨none, none, none, none, x, k, rfl, fun _ _ e _ => e, hp, hk⟩)⟩, ?_⟩
    · refine ⟨_, rfl, p, _, _, _, rfl, rfl, SqL.of hp, rfl, ?_⟩
      refine ⟨_, rfl, p, _, _, _, rfl, rfl, SqL.of hp, rfl, _, rfl, a, ns, k, rfl, hS, hk, fun cell => ?_⟩
      refine ⟨_, rfl, _, _, rfl, rfl, _, rfl, p, _, _, _, rfl, rfl, hp, rfl, ?_⟩
      refine ⟨_, rfl, _, rfl, _, rfl, p, _, _, _, rfl, rfl, upd_same, rfl, ?_⟩
      have fin : ∀ (z z' : Int) (Hx : Hp), Keep p H Hx → Keep p H (upd Hx p (.lst [.int z, .int z', .ref a])) := fun z z' Hx kx b o e n => by
        rw [upd_ne n]
        exact kx b o e n
      have k0 : Keep p H H := fun _ _ e _ => e
      have kA := fin x (k + 1) H k0
      have kB := fin (if cell < 0 then -cell else cell) (k + 1) _ kA
      have eB : upd (upd H p (.lst [.int x, .int (k + 1), .ref a])) p (.lst [.int (if cell < 0 then -cell else cell), .int (k + 1), .ref a]) p = some (.lst [.int (if cell < 0 then -cell else cell), .int (k + 1), .ref a]) := upd_same
      have done : ∀ (y5 : Option V) (z : Int) (Hx : Hp), Keep p H Hx → Hx p = some (.lst [.int z, .int (k + 1), .ref a]) → M [some (.ref p), some (.int many), some (.int k), some (.int cell), some (.int 618970019642690137449562111), y5, none] Hx := fun y5 z Hx k1 e1 => ⟨_, _, _, _, z, k + 1, rfl, k1, e1, by omega⟩
      refine ⟨_, rfl, _, rfl, _, _, rfl, rfl, _, rfl, ite2 (fun e1 => ⟨_, _, rfl, rfl, _, rfl, ite2 (fun e2 => ?_) (fun _ => done none _ _ kB eB)⟩) (fun _ => ⟨_, rfl, iteF (done none _ _ kB eB)⟩)⟩
      refine ⟨_, rfl, _, _, rfl, rfl, .inr ⟨by decide, by decide⟩, _, rfl, _, _, rfl, rfl, _, _, rfl, rfl, .inr ⟨by decide, by decide⟩, _, _, rfl, rfl, .inl ⟨_, rfl, _, rfl, _, _, rfl, rfl, (by show (0 : Int) < 618970019642690137449562111; decide), ?_⟩⟩
      dsimp only
      have m0 : 0 ≤ (cell * 2654435761 + (k + 1) * 6700417) % 618970019642690137449562111 := Int.emod_nonneg _ (by decide)
      have m1 : (cell * 2654435761 + (k + 1) * 6700417) % 618970019642690137449562111 < 618970019642690137449562111 := Int.emod_lt_of_pos _ (by decide)
      generalize (cell * 2654435761 + (k + 1) * 6700417) % 618970019642690137449562111 = mx at m0 m1 ⊢
      have mb : mx.natAbs < 2 ^ 90 := by
        have : (2 : Nat) ^ 90 = 1237940039285380274899124224 := by decide
        omega
      refine ⟨_, rfl, _, rfl, _, _, rfl, rfl, wide_mul mb mb (by decide) (by decide) (by decide), _, rfl, _, _, rfl, rfl, .inl ⟨by decide, by decide⟩, _, _, rfl, rfl, _, rfl, _, _, rfl, rfl, .inl ⟨_, rfl, _, rfl, _, _, rfl, rfl, (by show (0 : Int) < 618970019642690137449562111; decide), _, rfl, _, _, rfl, rfl, _, rfl, p, _, _, _, rfl, rfl, eB, rfl, ?_⟩⟩
      exact done _ _ _ (fin _ _ _ kB) upd_same
    rintro σ' H' ⟨y2, y3, y4, y5, x', k', rfl, k1, hp', hk'⟩
    refine ⟨_, rfl, p, _, _, _, rfl, rfl, SqL.of hp', rfl, .inl ⟨_, rfl, _, rfl, _, _, rfl, rfl, h0, ?_⟩⟩
    refine ⟨_, rfl, p, _, _, _, rfl, rfl, SqL.of hp', rfl, _, rfl, _, _, rfl, rfl, wide_div h0 h1 (by decide) (by decide), _, rfl, p, _, _, _, rfl, rfl, hp', rfl, ?_⟩
    have k2 : Keep p H (upd H' p (.lst [.int (x' / many), .int k', .ref a])) := fun b o e n => by
      rw [upd_ne n]
      exact k1 b o e n
    exact ⟨_, rfl, q _ _ k2 ⟨_, k', upd_same, hk', sql_keep k2 hp hS⟩ (Int.emod_nonneg _ (by omega)) (Int.emod_lt_of_pos _ h0)⟩
section
variable {P : Program} {w : World} {K : PySem.W.Frag} {mg : Str → Option Value} {base : Heap} {A : Ads}
def spPick (K : PySem.W.Frag) : Sp := fun vs H Q _ => ∃ (a p r : Addr) (ns : List Int) (xs : List V), vs = [.ref p, .ref r] ∧ StL K H a p ns ∧ SqT K H r xs ∧ 0 < xs.length ∧ xs.length ≤ 100 ∧ ∀ H' v, v ∈ xs → Keep p H H' → StL K H' a p ns → Q v H'
theorem ok_law_pick (L : Lib P K mg A) : FnOk P w K mg base CX0 3 L.law_pick.f L.law_pick.fd ["state", "row"] (spPick K) := by
  have GD : FnOk P w K mg base CX0 2 L.law_draw.f L.law_draw.fd ["state", "many"] (spDraw K) := ok_law_draw L
  refine L.law_pick.F.ok sc_law_pick (fun vs H Q E h => ?_) (fun cdv A' outer s H vs Q E hr h => ?_)
  · obtain ⟨a, p, r, ns, xs, rfl, _⟩ := h
    rfl
  · obtain ⟨a, p, r, ns, xs, rfl, hst, ht, h0, h1, q⟩ := h
    refine ⟨_, pss_one (ps_ret (pe_ix ix_tup (pv 1) (pe_call GD hr (by rfl) L.law_draw.g L.law_draw.F.kp L.law_draw.b .nil pass0 (pa_cons (pv 0) (pa_cons (pe_callB call_len_seq (by rfl) L.z_len PySem.boot_len (pa_cons (pv 1) pa_nil)) pa_nil))) (fun _ _ => rfl))), ?_⟩
    refine ⟨_, rfl, _, rfl, _, rfl, r, _, rfl, .inr ht, a, p, ns, _, rfl, hst, by omega, by omega, fun H' i k1 st i0 i1 => ?_⟩
    obtain ⟨j, rfl⟩ : ∃ j : Nat, i = (j : Int) := ⟨i.toNat, by omega⟩
    have hj : j < xs.length := by omega
    obtain ⟨x, k, hp, _⟩ := hst
    exact ⟨r, xs, _, xs[j], rfl, rfl, sqt_keep k1 hp ht, atI_nat (List.getElem?_eq_getElem hj), q H' _ (List.getElem_mem hj) k1 st⟩
end
end My
namespace My
open PySem L2 SX XT XS XE
open C8 (pss_cut tCut cutS_slice pe_gc)
theorem evInvalidCode (cda cc : Addr) : (supOf sx_InvalidCode "InvalidCode.__init__" cda cc).Ev := fun env => ⟨⟨_, by rfl⟩, by rfl, by rfl⟩
theorem scInvalidCode : NdefX.NScope ["self", "offset", "message", "__class__"] ["self", "offset", "message"] ["__class__"] (defScope sx_InvalidCode) := NdefX.nscope_by (by decide +kernel)
section
variable {P : Program} {w : World} {K : PySem.W.Frag} {mg : Str → Option Value} {base : Heap} {cE fI cda cc : Addr}
theorem lt_len {s : Str} (h : s.length ≤ 100000) : s.length ≤ sizeLine := by rw [sizeLine_eq]; omega
theorem ok_InvalidCode {dV kV doc pm ct oc : Value} {an od : Option Addr} {osl : Array (Option Value)} (lk : K.lookup fI = some ⟨oc, od, .func (PySem.W.ksFn "__init__" "InvalidCode.__init__" (defArgs sx_InvalidCode) (defBody sx_InvalidCode) (defScope sx_InvalidCode) dV kV doc pm an (.ref cda) ct cc), osl⟩)
    (hcd : PySem.W.codeIn K (.ref cda) "InvalidCode.__init__" = true) (T : Exn P K mg cE fI "offset" "message") (U : Sup P K mg cda cc cE cE) :
    FnOk P w K mg base CX0 1 fI (PySem.W.ksFn "__init__" "InvalidCode.__init__" (defArgs sx_InvalidCode) (defBody sx_InvalidCode) (defScope sx_InvalidCode) dV kV doc pm an (.ref cda) ct cc) ["self", "offset", "message"] (spTwoI cE "offset" "message") := by
  refine fn_super (D := cE) (F := supOf sx_InvalidCode "InvalidCode.__init__" cda cc) lk hcd scInvalidCode rfl rfl (show (defScope sx_InvalidCode).names.lookup ("super" : Str) = some .globalImplicit by decide +kernel) (evInvalidCode cda cc) (fun vs H Q E h => ?_) (fun A outer s H vs Q E hr h => ?_)
  · obtain ⟨a, v1, v2, rfl, _⟩ := h
    rfl
  · obtain ⟨a, v1, v2, rfl, ha, ⟨k1, rfl, z1⟩, ⟨k2, rfl, z2⟩, q⟩ := h
    refine ⟨a, cE, _, _, rfl, ha, T.oex, U, pa_cons (pe_joined (.cons (pe_fmt (pv 2)) (.cons pe_str (.cons (pe_fmt (pv 1)) (.cons pe_str .nil))))) pa_nil, pss_cons (ps_ost (pv 0) (pv 1)) (pss_one (ps_ost (pv 0) (pv 2))), ?_⟩
    have l0 : (Str.empty : Str).length = 0 := by decide +kernel
    have l5 : ((" (at " : Str)).length = 5 := by decide +kernel
    have l1 : ((")" : Str)).length = 1 := by decide +kernel
    have li := PyProof.Rows.int_text_len_1921 (i := k1) z1
    refine ⟨_, rfl, .inl ⟨k2, rfl, lt_len z2, k2, rfl, ?_, ?_⟩⟩
    · rw [Str.length_append, l0, sizeLine_eq]
      omega
    refine ⟨_, rfl, ?_, _, rfl, .inr ⟨k1, rfl, z1, _, rfl, ?_, ?_⟩⟩
    · rw [Str.length_append, Str.length_append, l0, l5, sizeLine_eq]
      omega
    · rw [Str.length_append, Str.length_append, Str.length_append, l0, l5, sizeLine_eq]
      omega
    refine ⟨_, rfl, ?_, ?_⟩
    · rw [Str.length_append, Str.length_append, Str.length_append, Str.length_append, l0, l5, l1, sizeLine_eq]
      omega
    refine ⟨by show 1 ≤ 1000; omega, ha, ?_⟩
    refine ⟨_, rfl, _, rfl, a, cE, rfl, T.oex, T.n1, .inl ⟨ha, fun d hd hne => ?_⟩⟩
    refine ⟨_, rfl, _, rfl, a, cE, rfl, T.oex, T.n2, .inr ⟨d, [("offset", .int k1)], upd_same, ?_, (by show 1 ≤ 900; omega), ?_⟩⟩
    · rw [upd_ne hne]
      exact upd_same
    · exact q d hd hne
end
end My
/-! ### comment_end, run_end, number_of -/
namespace My
open PySem L2 SX XT XS XE
open C8 (pss_cut tCut cutS_slice pe_gc)
local macro_rules | `(tactic| walk_at "sz") => `(tactic| first | assumption | (simp only [S_len, List.length_append, List.length_cons, List.length_nil] <;> omega))
section
variable {P : Program} {w : World} {K : PySem.W.Frag} {mg : Str → Option Value} {base : Heap} {A : Ads}
theorem inV_codes (x : List Nat) (ls : List (List Nat)) : inV (.str (S x)) (ls.map fun l => V.str (S l)) = decide (x ∈ ls) := by
  unfold inV
  rw [Bool.eq_iff_iff, List.any_eq_true, decide_eq_true_eq]
  constructor
  · rintro ⟨v, hv, e⟩
    obtain ⟨l, hl, rfl⟩ := List.mem_map.mp hv
    have e2 : (S l == S x) = true := e
    rw [S_inj (eq_of_beq e2)] at hl
    exact hl
  · intro h
    exact ⟨_, List.mem_map.mpr ⟨x, h, rfl⟩, (beq_self_eq_true (S x) : (S x == S x) = true)⟩
def spCE : Sp := fun vs H Q _ => ∃ (l : List Nat) (a : Nat), vs = [.str (S l), .int (a : Int)] ∧ a ≤ l.length ∧ l.length ≤ 1000000 ∧ Q (.int ((a + Lx.line (l.drop a) : Nat) : Int)) H
theorem ok_comment_end (L : Lib P K mg A) : FnOk P w K mg base CX0 1 L.comment_end.f L.comment_end.fd ["text", "at"] spCE := by
  refine L.comment_end.F.ok sc_comment_end (fun vs H Q E h => ?_) (fun cdv A' outer s H vs Q E hr h => ?_)
  · obtain ⟨l, a, rfl, _⟩ := h
    rfl
  · obtain ⟨l, a, rfl, ha, hl, q⟩ := h
    have hz := sizeLine_eq
    refine ⟨_, (pss_cons (ps_set (i := 2) sc_comment_end.nd rfl (.inl rfl) (pe_bm PySem.F.plainAttrs_str PySem.F.slot_str_find PySem.F.type_str_find mt_find3 (pv 0) (pa_cons pe_str (pa_cons (pv 1) pa_nil))))
      (pss_one (ps_ret (pe_ifExp (pt_cmpR op_lt (pv 2) pe_int (nomark _)) (pe_callB call_len_str (by rfl) L.z_len PySem.boot_len (pa_cons (pv 0) pa_nil)) (pv 2))))), ?_⟩
    refine ⟨_, rfl, rfl, _, rfl, _, _, _, rfl, rfl, ?_⟩
    have e10 : (("\n" : Str)) = S [10] := by decide +kernel
    rcases find_line l a ha with ⟨h1, h2⟩ | ⟨h1, h2⟩
    · refine ⟨_, rfl, _, _, rfl, rfl, _, rfl, ite2 (fun e => ⟨_, rfl, S l, rfl, (by walk_at "sz"), ?_⟩) (fun e => ?_)⟩
      · rw [S_len, ← h2]
        exact q
      · exact absurd (decide_eq_true (by rw [e10]; exact h1)) e
    · refine ⟨_, rfl, _, _, rfl, rfl, _, rfl, ite2 (fun e => ?_) (fun e => ⟨_, rfl, ?_⟩)⟩
      · exact absurd (of_decide_eq_true e) (by rw [e10]; exact h1)
      · rw [e10, h2]
        exact q
def spRE : Sp := fun vs H Q _ => ∃ (l sg : List Nat) (a : Nat), vs = [.str (S l), .int (a : Int), .str (S sg)] ∧ a ≤ l.length ∧ l.length ≤ 1000000 ∧ Q (.int ((a + Lx.run (fun c => decide (c ∈ sg)) (l.drop a) : Nat) : Int)) H
theorem ok_run_end (L : Lib P K mg A) : FnOk P w K mg base CX0 1 L.run_end.f L.run_end.fd ["text", "at", "signs"] spRE := by
  refine L.run_end.F.ok sc_run_end (fun vs H Q E h => ?_) (fun cdv A' outer s H vs Q E hr h => ?_)
  · obtain ⟨l, sg, a, rfl, _⟩ := h
    rfl
  · obtain ⟨l, sg, a, rfl, ha, hl, q⟩ := h
    have hz := sizeLine_eq
    have hL : (S l).length = l.length := S_len l
    refine ⟨_, (pss_cons (ps_while PassesOwn.never (PW.pt (pw_and (pt_cmpR op_lt (pv 1) (pe_callB call_len_str (by rfl) L.z_len PySem.boot_len (pa_cons (pv 0) pa_nil)) (nomark _)) (pw_and1 (pt_cmpR op_in_sign (pe_ix ix_str (pv 0) (pv 1) (fun _ _ => rfl)) (pv 2) rfl))))
        (pss_one (ps_aug (i := 1) sc_run_end.nd rfl (.inl rfl) pe_int ip_add)))
      (pss_one (ps_ret (pv 1)))), ?_⟩
    refine ⟨fun m σ H' => ∃ b : Nat, σ = [some (.str (S l)), some (.int (b : Int)), some (.str (S sg))] ∧ H' = H ∧ b ≤ l.length ∧ b + Lx.run (fun c => decide (c ∈ sg)) (l.drop b) = a + Lx.run (fun c => decide (c ∈ sg)) (l.drop a) ∧ m = l.length - b, ⟨_, a, rfl, rfl, ha, rfl, rfl⟩, ?_⟩
    rintro m σ H' ⟨b, rfl, rfl, hb, hg, rfl⟩
    have fin : Lx.run (fun c => decide (c ∈ sg)) (l.drop b) = 0 → tRet (tVar 1) ⟨fun _ _ => False, Q, fun _ _ => False, fun _ _ => False⟩ [some (.str (S l)), some (.int (b : Int)), some (.str (S sg))] H' := fun h0 => by
      refine ⟨_, rfl, ?_⟩
      rw [show (b : Int) = ((a + Lx.run (fun c => decide (c ∈ sg)) (l.drop a) : Nat) : Int) by omega]
      exact q
    refine ⟨_, rfl, _, rfl, _, rfl, (by walk_at "sz"), _, _, rfl, rfl, _, rfl, ite2 (fun e => ?_) (fun e => iteF ?_)⟩
    · have hlt : b < l.length := by
        have := of_decide_eq_true e
        omega
      have ed := drop_cons hlt
      have hc : l[b]? = some l[b] := List.getElem?_eq_getElem hlt
      refine ⟨_, rfl, _, rfl, _, _, _, rfl, rfl, (by walk_at "sz"), atS l b _ hc, _, rfl, _, _, rfl, rfl, _, rfl, ite2 (fun e2 => ?_) (fun e2 => ?_)⟩
      · refine ⟨fun σ' H1 => ∃ b' : Nat, σ' = [some (.str (S l)), some (.int (b' : Int)), some (.str (S sg))] ∧ H1 = H' ∧ b' ≤ l.length ∧ b' + Lx.run (fun c => decide (c ∈ sg)) (l.drop b') = a + Lx.run (fun c => decide (c ∈ sg)) (l.drop a) ∧ b < b', ?_, ?_⟩
        · rintro σ' H1 ⟨b', rfl, rfl, h1, h2, h3⟩
          exact ⟨_, by omega, b', rfl, rfl, h1, h2, rfl⟩
        refine ⟨_, rfl, _, _, rfl, rfl, b + 1, rfl, rfl, by omega, ?_, by omega⟩
        rw [ed] at hg
        have : Lx.run (fun c => decide (c ∈ sg)) (l[b] :: l.drop (b + 1)) = Lx.run (fun c => decide (c ∈ sg)) (l.drop (b + 1)) + 1 := by
          show (if decide (l[b] ∈ sg) = true then _ else 0) = _
          rw [if_pos e2]
        rw [this] at hg
        omega
      · refine fin ?_
        rw [ed]
        show (if decide (l[b] ∈ sg) = true then _ else 0) = _
        rw [if_neg e2]
    · refine fin ?_
      have hge : b = l.length := by
        have : ¬ (b : Int) < ((S l).length : Nat) := fun z => e (decide_eq_true z)
        omega
      rw [hge, List.drop_length]
      rfl
theorem stripM (l : List Nat) : Txt.lstripChars (S l) (S [45]) = S (l.dropWhile (· == 45)) := by
  unfold Txt.lstripChars
  rw [PyProof.Rows.stripBy_eq]
  refine TL.ext_tl ?_
  have e1 : stripHi (S [45]).cps.contains false (S l) (stripLo (S [45]).cps.contains true (S l)) = (S l).length := rfl
  rw [e1, TL.tl_strSub_end]
  show l.drop (l.takeWhile (S [45]).cps.contains).length = l.dropWhile (· == 45)
  rw [drop_while]
  congr 1
  funext c
  simp
  rfl
theorem cut0 (l : List Nat) (j : Nat) : cutS (S l) none (some (j : Int)) = S (l.take j) := by
  have := cut2 l 0 j (Nat.zero_le _)
  rw [Nat.sub_zero, List.drop_zero] at this
  exact this
theorem starts45 (l : List Nat) : Txt.startswith (S l) (S [45]) = decide (l.head? = some 45) := by
  cases l with
  | nil => rfl
  | cons c r =>
    show (((S (c :: r)).cps.extract 0 1) == (S [45]).cps) = _
    rw [Bool.eq_iff_iff, beq_iff_eq, ← Array.toList_inj, decide_eq_true_eq]
    simp
/-- the digits that are read of a number's text -/
def digs (l : List Nat) : List Nat := ((l.dropWhile (· == 45)).dropWhile (· == 48)).take 301
def digV (d : List Nat) : Nat := NumText.digitsVal (if d = [] then [48] else d)
def numV (l : List Nat) : Int := if l.head? = some 45 then -(digV (digs l) : Int) else (digV (digs l) : Int)
def spNO : Sp := fun vs H Q _ => ∃ (l : List Nat), vs = [.str (S l)] ∧ l.length ≤ 1000000 ∧ (∀ c ∈ l.dropWhile (· == 45), Lx.isDig c = true) ∧ Q (.int (numV l)) H
theorem ok_number_of (L : Lib P K mg A) : FnOk P w K mg base CX0 1 L.number_of.f L.number_of.fd ["text"] spNO := by
  refine L.number_of.F.ok sc_number_of (fun vs H Q E h => ?_) (fun cdv A' outer s H vs Q E hr h => ?_)
  · obtain ⟨l, rfl, _⟩ := h
    rfl
  · obtain ⟨l, rfl, hl, hd, q⟩ := h
    have hz := sizeLine_eq
    have hL : (S l).length = l.length := S_len l
    refine ⟨_, (pss_cons (ps_set (i := 1) sc_number_of.nd rfl (.inl rfl) (pe_m1 PySem.F.slot_str_lstrip PySem.F.type_str_lstrip mt_lstripChars (pe_m1 PySem.F.slot_str_lstrip PySem.F.type_str_lstrip mt_lstripChars (pv 0) pe_str) pe_str))
      (pss_cons (ps_set (i := 2) sc_number_of.nd rfl (.inl rfl) (pe_callTy call_int_str (by rfl) L.z_int (by decide +kernel) (pa_cons (pe_orT (pe_slice sl_str (pv 1) po_none (po_some (pe_op op_add (pe_glob (v := .int 300) (by rfl) L.v_MOST_DIGITS.choose_spec ⟨_, rfl⟩) pe_int))) (pe_one pe_str)) pa_nil)))
      (pss_one (ps_ret (pe_ifExp (pt_val (pe_bm PySem.F.plainAttrs_str PySem.F.slot_str_startswith PySem.F.type_str_startswith mt_startswith (pv 0) (pa_cons pe_str pa_nil))) (pe_un un_neg (pv 2)) (pv 2)))))), ?_⟩
    refine ⟨_, rfl, ⟨_, rfl⟩, _, _, rfl, rfl, (by walk_at "sz"), ?_⟩
    rw [show (("-" : Str)) = S [45] by decide +kernel, stripM]
    have l1 : (l.dropWhile (· == 45)).length ≤ l.length := (List.dropWhile_sublist _).length_le
    have l2 : ((l.dropWhile (· == 45)).dropWhile (· == 48)).length ≤ l.length := Nat.le_trans (List.dropWhile_sublist _).length_le l1
    refine ⟨⟨_, rfl⟩, _, _, rfl, rfl, (by walk_at "sz"), ?_⟩
    rw [show (("0" : Str)) = S [48] by decide +kernel, strip0]
    have h301 : ((300 : Int) + 1) = ((301 : Nat) : Int) := by decide
    refine ⟨_, rfl, _, _, rfl, rfl, _, rfl, S _, rfl, (by walk_at "sz"), ?_⟩
    rw [h301, cut0]
    have l3 : (digs l).length ≤ 301 := by
      show (List.take 301 _).length ≤ 301
      rw [List.length_take]
      omega
    have l4 : (S (digs l)).length ≤ sizeLine := by rw [S_len]; omega
    have hall : ∀ c ∈ digs l, Lx.isDig c = true := fun c hc => hd c ((List.dropWhile_sublist _).mem ((List.take_sublist _ _).mem hc))
    have fin : intText? (S (if digs l = [] then [48] else digs l)) = some ((digV (digs l) : Nat) : Int) := by
      unfold digV
      by_cases z : digs l = []
      · rw [if_pos z]
        exact int_S (by decide) (by decide) (by decide)
      · rw [if_neg z]
        exact int_S (List.all_eq_true.mpr hall) z (by omega)
    have tail : ∀ σ : L2.St, σ = [some (.str (S l)), some (.str (S ((l.dropWhile (· == 45)).dropWhile (· == 48)))), some (.int (digV (digs l) : Nat))] → tRet (tIf (tB (tBM (cxOf CX0 P w K mg base ["text", "digits", "size"] "number_of" (defScope s_number_of) L.number_of.f cdv A' outer s H E).nox.K "str" (fun x xs H Q => ∃ a b, x = V.str a ∧ xs = [V.str b] ∧ Q (V.bl (Txt.startswith a b)) H) (tVar 0) (tCons (tC (V.str (S [45]))) tNil))) (tUn (rU fun i => V.int (-i)) (tVar 2)) (tVar 2)) ⟨fun _ _ => False, Q, fun _ _ => False, fun _ _ => False⟩ σ H := by
      rintro σ rfl
      refine ⟨_, rfl, rfl, _, _, rfl, rfl, _, rfl, ?_⟩
      rw [starts45]
      unfold numV at q
      by_cases z : l.head? = some 45
      · rw [if_pos z] at q
        exact ifT (decide_eq_true z) ⟨_, rfl, _, rfl, q⟩
      · rw [if_neg z] at q
        exact ifF (decide_eq_false z) ⟨_, rfl, q⟩
    refine ⟨_, ⟨l4, rfl⟩, ite2 (fun e2 => ?_) (fun e2 => ?_)⟩
    · have hne : digs l ≠ [] := fun z => by
        have z2 : ((S (digs l)).length : Int) != 0 := e2
        rw [S_len, z] at z2
        exact absurd z2 (by decide)
      rw [if_neg hne] at fin
      refine ⟨_, _, rfl, fin, (by rw [S_len]; show (digs l).length ≤ 640; omega), ?_⟩
      exact tail _ rfl
    · have hne : digs l = [] := by
        cases hs : digs l with
        | nil => rfl
        | cons x r =>
          exfalso
          refine e2 ?_
          show (((S (digs l)).length : Int) != 0) = true
          rw [S_len, hs, bne_iff_ne, List.length_cons]
          omega
      rw [if_pos hne] at fin
      refine ⟨_, _, rfl, fin, (by decide), ?_⟩
      exact tail _ rfl
end
end My
/-! ### the model: pieces of lines -/
namespace My
open PySem L2 SX XT XS XE
open C8 (pss_cut tCut cutS_slice pe_gc)
local macro_rules | `(tactic| walk_at "sz") => `(tactic| first | assumption | (simp only [S_len, List.length_append, List.length_cons, List.length_nil] <;> omega))
inductive Pv where
  | w (x : List Nat)
  | c
  | t (x : List Nat)
  | n (i : Int)
structure Pc where
  at_ : Nat
  v : Pv
def Pv.k : Pv → Str
  | .w _ => "word"
  | .c => "colon"
  | .t _ => "text"
  | .n _ => "number"
def Pv.V : Pv → V
  | .w x => .str (S x)
  | .c => .str ":"
  | .t x => .str (S x)
  | .n i => .int i
def Pc.tl (p : Pc) : List V := [.str p.v.k, .int (p.at_ : Int), p.v.V]
inductive Re where
  | err (closed : Bool)
  | ok (v : Pv) (n : Nat)
/-- behind the opening mark: what stands in the text, and how many signs it takes -/
def textF : List Nat → List Nat → Nat → Option (List Nat × Nat)
  | [], _, _ => none
  | c :: r, acc, k => if c = 34 then some (acc, k + 1) else if c = 10 then none else if c = 92 then (match r with
    | [] => none
    | e :: r => match esc e with
      | none => none
      | some x => textF r (acc ++ [x]) (k + 2)) else textF r (acc ++ [c]) (k + 1)
def numP (s : Nat) (l : List Nat) : Re := if Lx.run Lx.isDig (l.drop s) = 0 then .err false else .ok (.n (numV (l.take (s + Lx.run Lx.isDig (l.drop s))))) (s + Lx.run Lx.isDig (l.drop s))
/-- the piece that begins with c, behind it r -/
def pieceF (c : Nat) (r : List Nat) : Re :=
  if Lx.isLet c = true then .ok (.w ((c :: r).take (Lx.run Lx.isLet (c :: r)))) (Lx.run Lx.isLet (c :: r))
  else if c = 58 then .ok .c 1
  else if c = 34 then (match textF r [] 1 with
    | none => .err true
    | some (x, k) => .ok (.t x) k)
  else numP (if c = 45 then 1 else 0) (c :: r)
def escL : List Nat → Option Nat
  | [c] => esc c
  | _ => none
theorem textF_nl {r acc : List Nat} {k : Nat} : textF (10 :: r) acc k = none := by
  unfold textF
  simp
theorem textF_esc {r acc : List Nat} {k d x : Nat} (h : esc d = some x) : textF (92 :: d :: r) acc k = textF r (acc ++ [x]) (k + 2) := by
  rw [textF.eq_def]
  simp [h]
theorem textF_bad {r acc : List Nat} {k : Nat} (h : escL (r.take 1) = none) : textF (92 :: r) acc k = none := by
  rw [textF.eq_def]
  cases r with
  | nil => simp
  | cons d r =>
    have : esc d = none := h
    simp [this]
theorem textF_one {c : Nat} {r acc : List Nat} {k : Nat} (h1 : ¬ c = 34) (h2 : ¬ c = 10) (h3 : ¬ c = 92) : textF (c :: r) acc k = textF r (acc ++ [c]) (k + 1) := by
  rw [textF.eq_def]
  simp [h1, h2, h3]
theorem textF_len : ∀ (n : Nat) (r acc x : List Nat) (k m : Nat), r.length ≤ n → textF r acc k = some (x, m) → k < m ∧ m ≤ k + r.length ∧ x.length ≤ acc.length + r.length
  | n, [], _, _, _, _, _, h => by simp [textF] at h
  | n, c :: r, acc, x, k, m, hl, h => by
    have hl' : r.length + 1 ≤ n := hl
    unfold textF at h
    split at h
    · simp at h
      obtain ⟨rfl, rfl⟩ := h
      simp
    · split at h
      · cases h
      · split at h
        · cases r with
          | nil => simp at h
          | cons e r =>
            simp only at h
            cases he : esc e with
            | none => rw [he] at h; simp at h
            | some y =>
              rw [he] at h
              have := textF_len (n - 2) r _ x _ m (by simp at hl'; omega) h
              simp at this ⊢
              omega
        · have := textF_len (n - 1) r _ x _ m (by omega) h
          simp at this ⊢
          omega
theorem pieceF_len {c : Nat} {r : List Nat} {v : Pv} {n : Nat} (h : pieceF c r = .ok v n) : 1 ≤ n ∧ n ≤ r.length + 1 := by
  unfold pieceF at h
  split at h
  · rename_i hc
    injection h with _ h
    subst h
    have := Lx.run_le Lx.isLet (c :: r)
    have e : Lx.run Lx.isLet (c :: r) = Lx.run Lx.isLet r + 1 := if_pos hc
    simp at this
    omega
  · split at h
    · injection h with _ h
      omega
    · split at h
      · cases ht : textF r [] 1 with
        | none => rw [ht] at h; cases h
        | some q =>
          obtain ⟨x, k⟩ := q
          rw [ht] at h
          injection h with _ h
          have := textF_len r.length r [] x 1 k (Nat.le_refl _) ht
          omega
      · generalize hs : (if c = 45 then 1 else 0) = s at h
        have s1 : s ≤ 1 := by rw [← hs]; split <;> omega
        unfold numP at h
        split at h
        · cases h
        · injection h with _ h
          rename_i hd
          have := Lx.run_le Lx.isDig ((c :: r).drop s)
          have l : ((c :: r).drop s).length = r.length + 1 - s := by simp
          have : Lx.run Lx.isDig ((c :: r).drop s) ≤ r.length + 1 - s := l ▸ this
          omega
/-- the tables that the code has beside -/
structure Tabs (K : PySem.W.Frag) (w : World) (mg : Str → Option Value) where
  eA : Addr
  sA : Addr
  wA : Addr
  gE : mg "ESCAPES" = some (.ref eA)
  gS : mg "SHAPES" = some (.ref sA)
  gW : mg "WORDS" = some (.ref wA)
  dE : ∃ es n, KDict K w eA es n
  dS : ∃ es n, KDict K w sA es n
  dW : ∃ es n, KDict K w wA es n
  nE : ∀ x, ∃ r, PySem.W.nsIn K eA (S x) = some r ∧ (∀ d, escL x = some d → ∃ u, r = some u ∧ RelV (.str (S [d])) u) ∧ (escL x = none → r = none)
def ErrC (E : XK) (A : Ads) (H : Hp) (at_ : Nat) (m : Str) : Prop := ∀ d, H d = none → E (.ref A.InvalidCode) (some d) (upd H d (.xd [("message", .str m), ("offset", .int (at_ : Int))]))
def notClosed : Str := "the text is not closed"
def notHere : Str := "this cannot stand here"
/-- a piece at q, and the pair of it and n at p, both new -/
structure Two (H H' : Hp) (p q : Addr) (t : Pc) (n : Nat) : Prop where
  same : Same H H'
  fp : H p = none
  fq : H q = none
  ep : H' p = some (.tup [.ref q, .int (n : Int)])
  eq : H' q = some (.tup t.tl)
theorem Two.of {H H1 : Hp} {p q : Addr} {t : Pc} {n : Nat} (s : Same H H1) (nq : H q = none) (eq : H1 q = some (.tup t.tl)) (np : H1 p = none) : Two H (upd H1 p (.tup [.ref q, .int (n : Int)])) p q t n :=
  ⟨s.trans (same_upd np), s.free np, nq, upd_same, by rw [upd_ne (ne_of_none eq np)]; exact eq⟩
theorem log_at {a : Nat} (h : a ≤ 1000000) : ((a : Int)).natAbs.log2 < 1920 := by
  show a.log2 < 1920
  by_cases z : a = 0
  · subst z; decide
  · exact (Nat.log2_lt z).mpr (Nat.lt_of_le_of_lt h (Nat.lt_of_lt_of_le (by decide : 1000000 < 2 ^ 20) (Nat.pow_le_pow_right (by decide) (by decide))))
section
variable {P : Program} {w : World} {K : PySem.W.Frag} {mg : Str → Option Value} {base : Heap} {A : Ads}
def spTP (A : Ads) : Sp := fun vs H Q E => ∃ (l : List Nat) (a : Nat), vs = [.str (S l), .int (a : Int)] ∧ l.length ≤ 1000000 ∧ a ≤ l.length ∧
  (∀ x m, textF (l.drop (a + 1)) [] 1 = some (x, m) → ∀ H' p q, Two H H' p q ⟨a, .t x⟩ (a + m) → Q (.ref p) H') ∧ (textF (l.drop (a + 1)) [] 1 = none → ∀ H', Same H H' → ErrC E A H' a notClosed)
theorem ok_text_piece (L : Lib P K mg A) (T : Tabs K w mg) : FnOk P w K mg base (L2.CX P w) 3 L.text_piece.f L.text_piece.fd ["text", "start"] (spTP A) := by
  obtain ⟨es, n, DE⟩ := T.dE
  refine L.text_piece.F.okX (k := 2) sc_text_piece (fun vs H Q E h => ?_) (fun cdv A' outer s H vs Q E hr h => ?_)
  · obtain ⟨l, a, rfl, _⟩ := h
    rfl
  · obtain ⟨l, a, rfl, hl, ha, q1, q2⟩ := h
    have hz := sizeLine_eq
    refine ⟨_, (pss_cons (ps_set (i := 2) sc_text_piece.nd rfl (.inl rfl) (pe_lst pa_nil))
      (pss_cons (ps_set (i := 3) sc_text_piece.nd rfl (.inl rfl) (pe_op op_add (pv 1) pe_int))
      (pss_cons (ps_while (passes_of rfl) (pt_cmpR op_ne (pe_slice sl_str (pv 0) (po_some (pv 3)) (po_some (pe_op op_add (pv 3) pe_int))) pe_str (nomark _))
        (pss_cons (ps_set (i := 4) sc_text_piece.nd rfl (.inl rfl) (pe_cmpR op_eq (pe_slice sl_str (pv 0) (po_some (pv 3)) (po_some (pe_op op_add (pv 3) pe_int))) pe_str (nomark _)))
      (pss_cons (ps_if (PW.pt (pw_or (pt_cmpR op_in_seq (pe_slice sl_str (pv 0) (po_some (pv 3)) (po_some (pe_op op_add (pv 3) pe_int))) (pe_tup (pa_cons pe_str (pa_cons pe_str pa_nil))) (by rfl)) (pw_or1 (PW.pt (pw_and (pt_val (pv 4)) (pw_and1 (pt_cmpR (op_notIn_kd DE) (pe_slice sl_str (pv 0) (po_some (pe_op op_add (pv 3) pe_int)) (po_some (pe_op op_add (pv 3) pe_int))) (pe_gc (v := .ref T.eA) (by rfl) ⟨_, T.gE, rfl⟩) (by rfl))))))))
        (pss_one (ps_raise2I rfl L.x_InvalidCode.T (L.x_InvalidCode.F _ _) (hr.mono (by omega)) (takes_of rfl rfl rfl rfl) L.x_InvalidCode.b (by rfl) L.x_InvalidCode.g (pa_cons (pv 1) (pa_cons pe_str pa_nil))))
        pss_nil)
      (pss_cons (ps_expr (pe_bm PySem.F.plainAttrs_list PySem.F.slot_list_append PySem.F.type_list_append mt_append (pv 2) (pa_cons (pe_ifExp (pt_val (pv 4)) (pe_ix ix_kdict (pe_gc (v := .ref T.eA) (by rfl) ⟨_, T.gE, rfl⟩) (pe_ix ix_str (pv 0) (pe_op op_add (pv 3) pe_int) (fun _ _ => rfl)) (fun _ _ => rfl)) (pe_ix ix_str (pv 0) (pv 3) (fun _ _ => rfl))) pa_nil)))
      (pss_one (ps_aug (i := 3) sc_text_piece.nd rfl (.inl rfl) (pe_ifExp (pt_val (pv 4)) pe_int pe_int) in_add))))))
      (pss_one (ps_ret (pe_tup (pa_cons (pe_tup (pa_cons pe_str (pa_cons (pv 1) (pa_cons (pe_join pe_str (pv 2)) pa_nil)))) (pa_cons (pe_op op_add (pv 3) pe_int) pa_nil)))))))), ?_⟩
    have e34 : (("\"" : Str)) = S [34] := by decide +kernel
    have e92 : (("\\" : Str)) = S [92] := by decide +kernel
    have e0 : (("" : Str)) = S [] := by decide +kernel
    -- signs = []
    refine ⟨(by show 0 ≤ sizeLine; decide), fun p1 n1 => ?_⟩
    -- at = start + 1
    refine ⟨_, rfl, _, _, rfl, rfl, ?_⟩
    have s1 : Same H (upd H p1 (.lst [])) := same_upd n1
    -- the loop
    refine ⟨fun m σ H' => ∃ (b : Nat) (acc : List Nat) (y : Option V), σ = [some (.str (S l)), some (.int (a : Int)), some (.ref p1), some (.int (b : Int)), y] ∧ Same H H' ∧ H' p1 = some (.lst ((acc.map fun c => S [c]).map V.str)) ∧ textF (l.drop b) acc (b - a) = textF (l.drop (a + 1)) [] 1 ∧ acc.length ≤ b ∧ a < b ∧ m = l.length - b,
      ⟨_, a + 1, [], none, rfl, s1, upd_same, by rw [Nat.add_sub_cancel_left], Nat.zero_le _, Nat.lt_succ_self _, rfl⟩, ?_⟩
    rintro m σ H' ⟨b, acc, y, rfl, s2, e1, hs, hab, hba, rfl⟩
    refine ⟨_, rfl, _, rfl, _, rfl, _, rfl, _, _, rfl, rfl, _, rfl, S l, rfl, (by walk_at "sz"), rfl, _, rfl, ?_⟩
    dsimp only
    rw [cutA, e34]
    refine ite2 (fun e => ?_) (fun e => ?_)
    · have h34 : (l.drop b).head? ≠ some 34 := fun z => by
        cases hd : l.drop b with
        | nil =>
          rw [hd] at z
          cases z
        | cons c r =>
          rw [hd] at z e
          have : c = 34 := Option.some.inj z
          subst this
          exact absurd e (by
            rw [show decide (V.str (S (List.take 1 (34 :: r))) = V.str (S [34])) = true from decide_eq_true rfl]
            decide)
      refine ⟨fun σ' H1 => ∃ (b' : Nat) (acc : List Nat) (y : Option V), σ' = [some (.str (S l)), some (.int (a : Int)), some (.ref p1), some (.int (b' : Int)), y] ∧ Same H H1 ∧ H1 p1 = some (.lst ((acc.map fun c => S [c]).map V.str)) ∧ textF (l.drop b') acc (b' - a) = textF (l.drop (a + 1)) [] 1 ∧ acc.length ≤ b' ∧ b < b' ∧ b < l.length, ?_, ?_⟩
      · rintro σ' H1 ⟨b', acc', y', rfl, h1, h2, h3, h4, h5, h6⟩
        exact ⟨_, by omega, b', acc', y', rfl, h1, h2, h3, h4, by omega, rfl⟩
      -- escaped = text[at:at + 1] == '\\'
      refine ⟨_, rfl, _, rfl, _, rfl, _, rfl, _, _, rfl, rfl, _, rfl, S l, rfl, (by walk_at "sz"), rfl, ?_⟩
      rw [cutA, e92]
      refine ⟨_, rfl, _, rfl, _, rfl, _, rfl, _, _, rfl, rfl, _, rfl, S l, rfl, (by walk_at "sz"), ?_⟩
      rw [cutA]
      refine ⟨(by show 2 ≤ sizeLine; decide), fun p2 n2 => ?_⟩
      have ei : inV (.str (S ((l.drop b).take 1))) [V.str "", V.str "\n"] = decide ((l.drop b).take 1 ∈ [[], [10]]) := by
        rw [show ([V.str "", V.str "\n"] : List V) = [[], [10]].map fun l => V.str (S l) by decide +kernel, inV_codes]
      refine ⟨p2, _, rfl, .inr (SqT.of upd_same), rfl, rfl, _, rfl, ?_⟩
      rw [ei]
      have s3 : Same H (upd H' p2 (.tup [V.str "", V.str "\n"])) := s2.trans (same_upd n2)
      have bad : textF (l.drop b) acc (b - a) = none → ∀ (σ : L2.St) (rest : L2.St), σ = [some (.str (S l)), some (.int (a : Int))] ++ rest → tMkO A.InvalidCode (spTwoI A.InvalidCode "offset" "message") [] (tCons (tVar 1) (tCons (tC (.str "the text is not closed")) tNil)) σ (upd H' p2 (.tup [V.str "", V.str "\n"])) fun cls d H' => E cls d H' := by
        rintro hn σ rest rfl
        exact ⟨_, rfl, made2I (log_at (by omega)) (by decide) fun d hd => q2 (by rw [← hs, hn]) _ s3 d hd⟩
      cases hd : l.drop b with
      | nil =>
        exact ifT rfl (ifT rfl (bad (by rw [hd]; rfl) _ _ rfl))
      | cons c r =>
        obtain ⟨hlt, hg, hd2⟩ := drop_at hd
        have c34 : ¬ c = 34 := fun z => h34 (by rw [hd, z]; rfl)
        have e1' : (upd H' p2 (.tup [V.str "", V.str "\n"])) p1 = some (.lst ((acc.map fun c => S [c]).map V.str)) := same_upd n2 _ _ e1
        have hlen : ((acc.map fun c => S [c]).map V.str).length < sizeLine := by
          rw [List.length_map, List.length_map]
          omega
        have np1 : ∀ x : Nat, Same H (upd (upd H' p2 (.tup [V.str "", V.str "\n"])) p1 (.lst (((acc.map fun c => S [c]).map V.str) ++ [.str (S [x])]))) := fun x b0 o0 h0 => by
          rw [upd_ne (ne_of_none h0 n1)]
          exact s3 _ _ h0
        generalize upd H' p2 (.tup [V.str "", V.str "\n"]) = H1 at bad e1' np1 s3 ⊢
        rw [show List.take 1 (c :: r) = [c] from rfl]
        by_cases h10 : c = 10
        · subst h10
          exact ifT rfl (ifT rfl (bad (by rw [hd]; exact textF_nl) _ _ rfl))
        refine ifF (show decide ([c] ∈ [[], [10]]) = false from by simp [h10]) ?_
        by_cases h92 : c = 92
        · subst h92
          refine ⟨_, rfl, _, rfl, ifT (decide_eq_true rfl) ?_⟩
          refine ⟨_, rfl, _, rfl, _, _, rfl, rfl, _, rfl, _, rfl, _, _, rfl, rfl, _, rfl, S l, rfl, (by walk_at "sz"), ?_⟩
          rw [cutA2, hd2]
          obtain ⟨r0, en, hsE, hnE⟩ := T.nE (r.take 1)
          refine ⟨S (r.take 1), r0, rfl, rfl, en, _, rfl, ?_⟩
          cases he : escL (r.take 1) with
          | none =>
            exact ifT (by rw [hnE he]; rfl) (bad (by rw [hd]; exact textF_bad he) _ _ rfl)
          | some x =>
            obtain ⟨d, r2, rfl, hed⟩ : ∃ d r2, r = d :: r2 ∧ esc d = some x := by
              cases r with
              | nil => cases he
              | cons d r2 => exact ⟨d, r2, rfl, he⟩
            obtain ⟨u, eu, ru⟩ := hsE x he
            rw [eu] at en
            obtain ⟨hlt2, hg2, hd3⟩ := drop_at hd2
            refine ifF (by rw [eu]; rfl) ?_
            refine ⟨_, rfl, .inl ⟨rfl, _, SqL.of e1'⟩, _, rfl, _, rfl, ifT (decide_eq_true rfl) ?_⟩
            refine ⟨_, rfl, _, rfl, _, _, rfl, rfl, _, _, d, rfl, rfl, (by walk_at "sz"), at_ofN (j := b + 1) (by omega) hg2, T.eA, S [d], .str (S [x]), rfl, rfl, ⟨es, n, u, DE.at_, DE.lit, en, ru⟩, p1, _, _, rfl, rfl, e1', hlen, ?_⟩
            refine ⟨_, rfl, _, rfl, _, rfl, ifT (decide_eq_true rfl) ?_⟩
            refine ⟨_, _, rfl, rfl, b + 2, acc ++ [x], _, rfl, np1 x, ?_, ?_, ?_, by omega, hlt⟩
            · rw [upd_same, List.map_append, List.map_append]
              rfl
            · rw [← hs, hd, textF_esc hed, hd3]
              congr 1
              omega
            · rw [List.length_append, List.length_singleton]
              omega
        · refine ⟨_, rfl, _, rfl, ifF (decide_eq_false fun z => h92 (by injection S_inj (V.str.inj z))) ?_⟩
          refine ifF rfl ?_
          refine ⟨_, rfl, .inl ⟨rfl, _, SqL.of e1'⟩, _, rfl, _, rfl, ifF (decide_eq_false fun z => h92 (by injection S_inj (V.str.inj z))) ?_⟩
          refine ⟨_, rfl, _, rfl, _, _, c, rfl, rfl, (by walk_at "sz"), atS l b c hg, p1, _, _, rfl, rfl, e1', hlen, ?_⟩
          refine ⟨_, rfl, _, rfl, _, rfl, ifF (decide_eq_false fun z => h92 (by injection S_inj (V.str.inj z))) ?_⟩
          refine ⟨_, _, rfl, rfl, b + 1, acc ++ [c], _, rfl, np1 c, ?_, ?_, ?_, by omega, hlt⟩
          · rw [upd_same, List.map_append, List.map_append]
            rfl
          · rw [← hs, hd, textF_one c34 h10 h92, hd2]
            congr 1
            omega
          · rw [List.length_append, List.length_singleton]
            omega
    · have hd : ∃ r, l.drop b = 34 :: r := by
        cases hd : l.drop b with
        | nil =>
          rw [hd] at e
          exact absurd (by rw [decide_eq_false (fun z => by cases S_inj (V.str.inj z))]; rfl) e
        | cons c r =>
          rw [hd] at e
          by_cases hc : c = 34
          · exact ⟨r, by rw [hc]⟩
          · exact absurd (by
              rw [decide_eq_false (fun z => by
                injection S_inj (V.str.inj z) with t
                exact hc t)]
              rfl) e
      obtain ⟨r, hd⟩ := hd
      have es : textF (l.drop (a + 1)) [] 1 = some (acc, b + 1 - a) := by
        rw [← hs, hd]
        unfold textF
        rw [if_pos rfl]
        congr 2
        omega
      obtain ⟨hlt, _, _⟩ := drop_at hd
      have q1 := q1 _ _ es
      rw [show a + (b + 1 - a) = b + 1 by omega] at q1
      -- return (('text', start, ''.join(signs)), at + 1)
      refine ⟨_, rfl, ⟨_, rfl⟩, _, rfl, _, p1, acc.map fun c => S [c], rfl, rfl, .inl (SqL.of e1), ?_, ?_⟩
      · rw [sum_ones, List.length_map, e0, S_len]
        show acc.length + acc.length * 0 ≤ 16777216
        omega
      rw [e0, join_signs]
      refine ⟨(by show 3 ≤ sizeLine; decide), fun p2 n2 => ?_⟩
      refine ⟨_, rfl, _, _, rfl, rfl, (by show 2 ≤ sizeLine; decide), fun p3 n3 => ?_⟩
      exact q1 _ p3 p2 (Two.of (s2.trans (same_upd n2)) (s2.free n2) upd_same n3)
end
end My
/-! ### piece_at -/
namespace My
open PySem L2 SX XT XS XE
open C8 (pss_cut tCut cutS_slice pe_gc)
local macro_rules | `(tactic| walk_at "sz") => `(tactic| first | assumption | (simp only [S_len, List.length_append, List.length_cons, List.length_nil] <;> omega))
def msgC (b : Bool) : Str := if b = true then notClosed else notHere
theorem pieceF_t {r x : List Nat} {k : Nat} (h : textF r [] 1 = some (x, k)) : pieceF 34 r = .ok (.t x) k := by
  unfold pieceF
  rw [if_neg (by decide), if_neg (by decide), if_pos rfl, h]
theorem pieceF_e {r : List Nat} (h : textF r [] 1 = none) : pieceF 34 r = .err true := by
  unfold pieceF
  rw [if_neg (by decide), if_neg (by decide), if_pos rfl, h]
theorem pieceF_n {c s : Nat} {r : List Nat} (h1 : ¬ Lx.isLet c = true) (h2 : ¬ c = 58) (h3 : ¬ c = 34) (es : (if c = 45 then 1 else 0) = s) : pieceF c r = numP s (c :: r) := by
  unfold pieceF
  rw [if_neg h1, if_neg h2, if_neg h3, es]
theorem digs_ok {c s : Nat} {r : List Nat} (es : (if c = 45 then 1 else 0) = s) : ∀ d ∈ ((c :: r).take (s + Lx.run Lx.isDig ((c :: r).drop s))).dropWhile (· == 45), Lx.isDig d = true := by
  intro d hm
  by_cases h : c = 45
  · rw [if_pos h] at es
    subst es
    subst h
    rw [show 1 + Lx.run Lx.isDig (List.drop 1 (45 :: r)) = Lx.run Lx.isDig r + 1 by rw [Nat.add_comm]; rfl, List.take_succ_cons, List.dropWhile_cons, if_pos (by decide)] at hm
    exact run_take _ _ d ((List.dropWhile_sublist _).mem hm)
  · rw [if_neg h] at es
    subst es
    rw [Nat.zero_add, List.drop_zero] at hm
    exact run_take _ _ d ((List.dropWhile_sublist _).mem hm)
section
variable {P : Program} {w : World} {K : PySem.W.Frag} {mg : Str → Option Value} {base : Heap} {A : Ads}
def spPA (A : Ads) : Sp := fun vs H Q E => ∃ (l : List Nat) (a c : Nat) (r : List Nat), vs = [.str (S l), .int (a : Int)] ∧ l.length ≤ 1000000 ∧ l.drop a = c :: r ∧
  (∀ v n, pieceF c r = .ok v n → ∀ H' p q, Two H H' p q ⟨a, v⟩ (a + n) → Q (.ref p) H') ∧ (∀ b, pieceF c r = .err b → ∀ H', Same H H' → ErrC E A H' a (msgC b))
theorem ok_piece_at (L : Lib P K mg A) (T : Tabs K w mg) : FnOk P w K mg base (L2.CX P w) 4 L.piece_at.f L.piece_at.fd ["text", "at"] (spPA A) := by
  have G_run_end : FnOk P w K mg base CX0 1 L.run_end.f L.run_end.fd ["text", "at", "signs"] spRE := ok_run_end L
  have G_number_of : FnOk P w K mg base CX0 1 L.number_of.f L.number_of.fd ["text"] spNO := ok_number_of L
  have G_text_piece : FnOk P w K mg base (L2.CX P w) 3 L.text_piece.f L.text_piece.fd ["text", "start"] (spTP A) := ok_text_piece L T
  refine L.piece_at.F.okX (k := 3) sc_piece_at (fun vs H Q E h => ?_) (fun cdv A' outer s H vs Q E hr h => ?_)
  · obtain ⟨l, a, c, r, rfl, _⟩ := h
    rfl
  · obtain ⟨l, a, c, r, rfl, hl, hd, q1, q2⟩ := h
    have hz := sizeLine_eq
    have hL : (S l).length = l.length := S_len l
    obtain ⟨hlt, hg, hd2⟩ := drop_at hd
    have hdl : l.length = a + r.length + 1 := by
      have := congrArg List.length hd
      rw [List.length_drop, List.length_cons] at this
      omega
    refine ⟨_, (pss_cons (ps_set (i := 2) sc_piece_at.nd rfl (.inl rfl) (pe_ix ix_str (pv 0) (pv 1) (fun _ _ => rfl)))
      (pss_cons (ps_if (pt_cmpR op_in_sign (pv 2) (pe_glob (v := .str "ABCDEFGHIJKLMNOPQRSTUVWXYZabcdefghijklmnopqrstuvwxyz_") (by rfl) L.v_LETTERS.choose_spec ⟨_, rfl⟩) (by rfl))
        (pss_cons (ps_set (i := 3) sc_piece_at.nd rfl (.inl rfl) (pe_call G_run_end (hr.mono (by omega)) (by rfl) L.run_end.g L.run_end.F.kp L.run_end.b .nil pass0 (pa_cons (pv 0) (pa_cons (pv 1) (pa_cons (pe_glob (v := .str "ABCDEFGHIJKLMNOPQRSTUVWXYZabcdefghijklmnopqrstuvwxyz_") (by rfl) L.v_LETTERS.choose_spec ⟨_, rfl⟩) pa_nil)))))
      (pss_one (ps_ret (pe_tup (pa_cons (pe_tup (pa_cons pe_str (pa_cons (pv 1) (pa_cons (pe_slice sl_str (pv 0) (po_some (pv 1)) (po_some (pv 3))) pa_nil)))) (pa_cons (pv 3) pa_nil))))))
        pss_nil)
      (pss_cons (ps_if (pt_cmpR op_eq (pv 2) pe_str (nomark _))
        (pss_one (ps_ret (pe_tup (pa_cons (pe_tup (pa_cons pe_str (pa_cons (pv 1) (pa_cons (pv 2) pa_nil)))) (pa_cons (pe_op op_add (pv 1) pe_int) pa_nil)))))
        pss_nil)
      (pss_cons (ps_if (pt_cmpR op_eq (pv 2) pe_str (nomark _))
        (pss_one (ps_ret (pe_callS G_text_piece (hr.mono (by omega)) (by rfl) L.text_piece.g L.text_piece.F.kp L.text_piece.b (fun σ => passAt (takes_of rfl rfl rfl rfl) σ) (pa_cons (pv 0) (pa_cons (pv 1) pa_nil)))))
        pss_nil)
      (pss_cons (ps_set (i := 4) sc_piece_at.nd rfl (.inl rfl) (pe_ifExp (pt_cmpR op_eq (pv 2) pe_str (nomark _)) (pe_op op_add (pv 1) pe_int) (pv 1)))
      (pss_cons (ps_set (i := 3) sc_piece_at.nd rfl (.inl rfl) (pe_call G_run_end (hr.mono (by omega)) (by rfl) L.run_end.g L.run_end.F.kp L.run_end.b .nil pass0 (pa_cons (pv 0) (pa_cons (pv 4) (pa_cons (pe_glob (v := .str "0123456789") (by rfl) L.v_DIGITS.choose_spec ⟨_, rfl⟩) pa_nil)))))
      (pss_cons (ps_if (pt_cmpR op_eq (pv 3) (pv 4) (nomark _))
        (pss_one (ps_raise2I rfl L.x_InvalidCode.T (L.x_InvalidCode.F _ _) (hr.mono (by omega)) (takes_of rfl rfl rfl rfl) L.x_InvalidCode.b (by rfl) L.x_InvalidCode.g (pa_cons (pv 1) (pa_cons pe_str pa_nil))))
        pss_nil)
      (pss_one (ps_ret (pe_tup (pa_cons (pe_tup (pa_cons pe_str (pa_cons (pv 1) (pa_cons (pe_call G_number_of (hr.mono (by omega)) (by rfl) L.number_of.g L.number_of.F.kp L.number_of.b .nil pass0 (pa_cons (pe_slice sl_str (pv 0) (po_some (pv 1)) (po_some (pv 3))) pa_nil)) pa_nil)))) (pa_cons (pv 3) pa_nil)))))))))))), ?_⟩
    have eL : (("ABCDEFGHIJKLMNOPQRSTUVWXYZabcdefghijklmnopqrstuvwxyz_" : Str)) = S letC := by decide +kernel
    have eD : (("0123456789" : Str)) = S digC := by decide +kernel
    have e58 : ((":" : Str)) = S [58] := by decide +kernel
    have e34 : (("\"" : Str)) = S [34] := by decide +kernel
    have e45 : (("-" : Str)) = S [45] := by decide +kernel
    refine ⟨_, rfl, _, rfl, _, _, c, rfl, rfl, (by walk_at "sz"), atS l a c hg, ?_⟩
    rw [eL, eD, e58, e34, e45]
    refine ⟨_, rfl, _, _, rfl, rfl, _, rfl, ite2 (fun e => ?_) (fun e => ?_)⟩
    · have hc : Lx.isLet c = true := by rw [← in_let]; exact e
      refine ⟨_, rfl, _, rfl, l, letC, a, rfl, by omega, hl, ?_⟩
      rw [run_congr in_let, hd]
      have hrun := Lx.run_le Lx.isLet (c :: r)
      rw [List.length_cons] at hrun
      refine ⟨_, rfl, _, rfl, _, rfl, _, rfl, _, rfl, _, rfl, S l, rfl, (by walk_at "sz"), ?_⟩
      rw [cut2 l _ _ (Nat.le_add_right _ _), Nat.add_sub_cancel_left, hd]
      refine ⟨(by show 3 ≤ sizeLine; decide), fun p1 n1 => ?_⟩
      refine ⟨_, rfl, (by show 2 ≤ sizeLine; decide), fun p2 n2 => ?_⟩
      refine q1 (.w ((c :: r).take (Lx.run Lx.isLet (c :: r)))) _ ?_ _ p2 p1 (Two.of (same_upd n1) n1 upd_same n2)
      unfold pieceF
      rw [if_pos hc]
    have hc : ¬ Lx.isLet c = true := by rw [← in_let]; exact e
    refine ⟨_, rfl, rfl, _, rfl, ite2 (fun e => ?_) (fun e => ?_)⟩
    · have h58 : c = 58 := by
        have := V.str.inj (of_decide_eq_true e)
        injection S_inj this
      subst h58
      refine ⟨_, rfl, _, rfl, (by show 3 ≤ sizeLine; decide), fun p1 n1 => ?_⟩
      refine ⟨_, rfl, _, _, rfl, rfl, (by show 2 ≤ sizeLine; decide), fun p2 n2 => ?_⟩
      refine q1 .c 1 ?_ _ p2 p1 (Two.of (same_upd n1) n1 (by rw [upd_same]; show some (HO.tup [_, _, _]) = some (HO.tup [_, _, V.str ":"]); rw [e58]; rfl) n2)
      rfl
    have h58 : ¬ c = 58 := fun z => e (decide_eq_true (by rw [z]))
    refine ⟨_, rfl, rfl, _, rfl, ite2 (fun e => ?_) (fun e => ?_)⟩
    · have h34 : c = 34 := by
        have := V.str.inj (of_decide_eq_true e)
        injection S_inj this
      subst h34
      refine ⟨_, rfl, _, rfl, l, a, rfl, hl, by omega, fun x m hx H' p q t => ?_, fun hx H' s2 => ?_⟩
      · rw [hd2] at hx
        exact q1 _ _ (pieceF_t hx) _ p q t
      · rw [hd2] at hx
        exact q2 true (pieceF_e hx) _ s2
    have h34 : ¬ c = 34 := fun z => e (decide_eq_true (by rw [z]))
    refine ⟨_, rfl, rfl, _, rfl, ite2 (fun e => ?_) (fun e => ?_)⟩
    · have h45 : c = 45 := by
        have := V.str.inj (of_decide_eq_true e)
        injection S_inj this
      refine ⟨_, rfl, _, _, rfl, rfl, ?_⟩
      obtain ⟨s, hs⟩ : ∃ s, s = 1 := ⟨1, rfl⟩
      have e1 : (fun i j => V.int (i + j)) (a : Int) 1 = V.int ((a + s : Nat) : Int) := by
        show V.int _ = _
        congr 1
        omega
      have es : (if c = 45 then 1 else 0) = s := by rw [if_pos h45, hs]
      rw [e1]
      have ep := pieceF_n (r := r) hc h58 h34 es
      have s1 : s ≤ 1 := by omega
      refine ⟨_, rfl, _, rfl, l, digC, a + s, rfl, by omega, hl, ?_⟩
      rw [run_congr in_dig, ← List.drop_drop, hd]
      unfold numP at ep
      have hrun := Lx.run_le Lx.isDig ((c :: r).drop s)
      rw [List.length_drop, List.length_cons] at hrun
      have hds : ∀ d ∈ ((c :: r).take (s + Lx.run Lx.isDig ((c :: r).drop s))).dropWhile (· == 45), Lx.isDig d = true := digs_ok es
      generalize hn : Lx.run Lx.isDig ((c :: r).drop s) = n at ep hrun hds ⊢
      refine ⟨_, rfl, _, rfl, rfl, _, rfl, ite2 (fun e => ?_) (fun e => ?_)⟩
      · have n0 : n = 0 := by
          have := V.int.inj (of_decide_eq_true e)
          omega
        rw [if_pos n0] at ep
        exact ⟨_, rfl, made2I (log_at (by omega)) (by decide) fun d hd => q2 false ep _ (fun b o h => h) d hd⟩
      · have n0 : ¬ n = 0 := fun z => e (decide_eq_true (by rw [z]; rfl))
        rw [if_neg n0] at ep
        refine ⟨_, rfl, _, rfl, _, rfl, _, rfl, _, rfl, _, rfl, S l, rfl, (by walk_at "sz"), ?_⟩
        have ecut : cutS (S l) (some (a : Int)) (some ((a + s + n : Nat) : Int)) = S ((c :: r).take (s + n)) := by
          rw [cut2 l _ _ (by omega), hd]
          congr 2
          omega
        rw [ecut]
        refine ⟨_, rfl, by rw [List.length_take]; omega, hds, ?_⟩
        refine ⟨(by show 3 ≤ sizeLine; decide), fun p1 n1 => ?_⟩
        refine ⟨_, rfl, (by show 2 ≤ sizeLine; decide), fun p2 n2 => ?_⟩
        rw [show a + s + n = a + (s + n) by omega]
        exact q1 _ _ ep _ p2 p1 (Two.of (same_upd n1) n1 upd_same n2)
    · have h45 : ¬ c = 45 := fun z => e (decide_eq_true (by rw [z]))
      obtain ⟨s, hs⟩ : ∃ s, s = 0 := ⟨0, rfl⟩
      have es : (if c = 45 then 1 else 0) = s := by rw [if_neg h45, hs]
      refine ⟨.int ((a + s : Nat) : Int), by rw [hs]; rfl, ?_⟩
      have ep := pieceF_n (r := r) hc h58 h34 es
      have s1 : s ≤ 1 := by omega
      refine ⟨_, rfl, _, rfl, l, digC, a + s, rfl, by omega, hl, ?_⟩
      rw [run_congr in_dig, ← List.drop_drop, hd]
      unfold numP at ep
      have hrun := Lx.run_le Lx.isDig ((c :: r).drop s)
      rw [List.length_drop, List.length_cons] at hrun
      have hds : ∀ d ∈ ((c :: r).take (s + Lx.run Lx.isDig ((c :: r).drop s))).dropWhile (· == 45), Lx.isDig d = true := digs_ok es
      generalize hn : Lx.run Lx.isDig ((c :: r).drop s) = n at ep hrun hds ⊢
      refine ⟨_, rfl, _, rfl, rfl, _, rfl, ite2 (fun e => ?_) (fun e => ?_)⟩
      · have n0 : n = 0 := by
          have := V.int.inj (of_decide_eq_true e)
          omega
        rw [if_pos n0] at ep
        exact ⟨_, rfl, made2I (log_at (by omega)) (by decide) fun d hd => q2 false ep _ (fun b o h => h) d hd⟩
      · have n0 : ¬ n = 0 := fun z => e (decide_eq_true (by rw [z]; rfl))
        rw [if_neg n0] at ep
        refine ⟨_, rfl, _, rfl, _, rfl, _, rfl, _, rfl, _, rfl, S l, rfl, (by walk_at "sz"), ?_⟩
        have ecut : cutS (S l) (some (a : Int)) (some ((a + s + n : Nat) : Int)) = S ((c :: r).take (s + n)) := by
          rw [cut2 l _ _ (by omega), hd]
          congr 2
          omega
        rw [ecut]
        refine ⟨_, rfl, by rw [List.length_take]; omega, hds, ?_⟩
        refine ⟨(by show 3 ≤ sizeLine; decide), fun p1 n1 => ?_⟩
        refine ⟨_, rfl, (by show 2 ≤ sizeLine; decide), fun p2 n2 => ?_⟩
        rw [show a + s + n = a + (s + n) by omega]
        exact q1 _ _ ep _ p2 p1 (Two.of (same_upd n1) n1 upd_same n2)
end
end My
/-! ### lines -/
namespace My
open PySem L2 SX XT XS XE
open C8 (pss_cut tCut cutS_slice pe_gc)
local macro_rules | `(tactic| walk_at "sz") => `(tactic| first | assumption | (simp only [S_len, List.length_append, List.length_cons, List.length_nil] <;> omega))
inductive Sc where
  | err (at_ : Nat) (closed : Bool)
  | ok (ls : List (List Pc))
def Sc.pre (d : List (List Pc)) : Sc → Sc
  | .err a b => .err a b
  | .ok ls => .ok (d ++ ls)
theorem Sc.pre_pre {d e : List (List Pc)} {s : Sc} : (s.pre e).pre d = s.pre (d ++ e) := by
  cases s with
  | err a b => rfl
  | ok ls => show Sc.ok _ = Sc.ok _; rw [List.append_assoc]
def scanF : Nat → Nat → List Nat → List Pc → Sc
  | 0, a, _, _ => .err a false
  | _ + 1, _, [], cur => .ok [cur]
  | f + 1, a, c :: r, cur =>
    if c = 10 then (scanF f (a + 1) r []).pre [cur]
    else if c = 32 then scanF f (a + 1) r cur
    else if c = 59 then scanF f (a + Lx.line (c :: r)) ((c :: r).drop (Lx.line (c :: r))) cur
    else match pieceF c r with
      | .err b => .err a b
      | .ok v n => scanF f (a + n) ((c :: r).drop n) (cur ++ [⟨a, v⟩])
theorem scanF_fuel : ∀ (f g a : Nat) (r : List Nat) (cur : List Pc), r.length < f → r.length < g → scanF f a r cur = scanF g a r cur
  | f + 1, g + 1, a, [], cur, _, _ => rfl
  | f + 1, g + 1, a, c :: r, cur, h1, h2 => by
    have h1 : r.length + 1 < f + 1 := h1
    have h2 : r.length + 1 < g + 1 := h2
    show (if c = 10 then (scanF f (a + 1) r []).pre [cur] else if c = 32 then scanF f (a + 1) r cur else if c = 59 then scanF f (a + Lx.line (c :: r)) ((c :: r).drop (Lx.line (c :: r))) cur else match pieceF c r with
      | .err b => .err a b
      | .ok v n => scanF f (a + n) ((c :: r).drop n) (cur ++ [⟨a, v⟩])) = (if c = 10 then (scanF g (a + 1) r []).pre [cur] else if c = 32 then scanF g (a + 1) r cur else if c = 59 then scanF g (a + Lx.line (c :: r)) ((c :: r).drop (Lx.line (c :: r))) cur else match pieceF c r with
      | .err b => .err a b
      | .ok v n => scanF g (a + n) ((c :: r).drop n) (cur ++ [⟨a, v⟩]))
    split
    · rw [scanF_fuel f g _ r [] (by omega) (by omega)]
    · split
      · rw [scanF_fuel f g _ r cur (by omega) (by omega)]
      · split
        · rename_i n10 _ h59
          have e : Lx.line (c :: r) = Lx.line r + 1 := if_neg n10
          rw [e, List.drop_succ_cons]
          exact scanF_fuel f g _ _ cur (by rw [List.length_drop]; omega) (by rw [List.length_drop]; omega)
        · cases hp : pieceF c r with
          | err b => rfl
          | ok v n =>
            have := pieceF_len hp
            exact scanF_fuel f g _ _ _ (by rw [List.length_drop, List.length_cons]; omega) (by rw [List.length_drop, List.length_cons]; omega)
def scan (a : Nat) (r : List Nat) (cur : List Pc) : Sc := scanF (r.length + 1) a r cur
theorem scan_nil {a : Nat} {cur : List Pc} : scan a [] cur = .ok [cur] := rfl
theorem scan_nl {a : Nat} {r : List Nat} {cur : List Pc} : scan a (10 :: r) cur = (scan (a + 1) r []).pre [cur] := rfl
theorem scan_sp {a : Nat} {r : List Nat} {cur : List Pc} : scan a (32 :: r) cur = scan (a + 1) r cur := rfl
theorem scan_cm {a : Nat} {r : List Nat} {cur : List Pc} : scan a (59 :: r) cur = scan (a + Lx.line (59 :: r)) ((59 :: r).drop (Lx.line (59 :: r))) cur := by
  have e : Lx.line (59 :: r) = Lx.line r + 1 := rfl
  have := Lx.line_le r
  show scanF (r.length + 1) _ _ _ = _
  exact scanF_fuel _ _ _ _ _ (by rw [e, List.drop_succ_cons, List.length_drop]; omega) (Nat.lt_succ_self _)
theorem scan_pc {a c n : Nat} {r : List Nat} {cur : List Pc} {v : Pv} (h1 : ¬ c = 10) (h2 : ¬ c = 32) (h3 : ¬ c = 59) (hp : pieceF c r = .ok v n) : scan a (c :: r) cur = scan (a + n) ((c :: r).drop n) (cur ++ [⟨a, v⟩]) := by
  have := pieceF_len hp
  unfold scan
  rw [List.length_cons, scanF, if_neg h1, if_neg h2, if_neg h3, hp]
  exact scanF_fuel _ _ _ _ _ (by rw [List.length_drop, List.length_cons]; omega) (Nat.lt_succ_self _)
theorem scan_er {a c : Nat} {b : Bool} {r : List Nat} {cur : List Pc} (h1 : ¬ c = 10) (h2 : ¬ c = 32) (h3 : ¬ c = 59) (hp : pieceF c r = .err b) : scan a (c :: r) cur = .err a b := by
  unfold scan
  rw [List.length_cons, scanF, if_neg h1, if_neg h2, if_neg h3, hp]
/-- two lists, member by member -/
def All2 {α β : Type} (R : α → β → Prop) : List α → List β → Prop
  | [], [] => True
  | a :: as, b :: bs => R a b ∧ All2 R as bs
  | _, _ => False
theorem All2.mono {α β : Type} {R T : α → β → Prop} (h : ∀ a b, R a b → T a b) : ∀ {as : List α} {bs : List β}, All2 R as bs → All2 T as bs
  | [], [], _ => trivial
  | _ :: _, _ :: _, ⟨x, y⟩ => ⟨h _ _ x, All2.mono h y⟩
  | [], _ :: _, z => z.elim
  | _ :: _, [], z => z.elim
theorem All2.len {α β : Type} {R : α → β → Prop} : ∀ {as : List α} {bs : List β}, All2 R as bs → as.length = bs.length
  | [], [], _ => rfl
  | _ :: _, _ :: _, ⟨_, y⟩ => congrArg (· + 1) (All2.len y)
  | [], _ :: _, z => z.elim
  | _ :: _, [], z => z.elim
theorem All2.snoc {α β : Type} {R : α → β → Prop} {a : α} {b : β} (r : R a b) : ∀ {as : List α} {bs : List β}, All2 R as bs → All2 R (as ++ [a]) (bs ++ [b])
  | [], [], _ => ⟨r, trivial⟩
  | _ :: _, _ :: _, ⟨x, y⟩ => ⟨x, All2.snoc r y⟩
  | [], _ :: _, z => z.elim
  | _ :: _, [], z => z.elim
theorem All2.get {α β : Type} {R : α → β → Prop} : ∀ {as : List α} {bs : List β} {i : Nat} {a : α}, All2 R as bs → as[i]? = some a → ∃ b, bs[i]? = some b ∧ R a b
  | _ :: _, b :: _, 0, a, ⟨x, _⟩, h => ⟨b, rfl, by injection h with h; exact h ▸ x⟩
  | _ :: _, _ :: _, i + 1, a, ⟨_, y⟩, h => All2.get (i := i) y h
  | [], [], _, _, _, h => by simp at h
  | [], _ :: _, _, _, z, _ => z.elim
  | _ :: _, [], _, _, z, _ => z.elim
def PcR (H : Hp) (u : V) (p : Pc) : Prop := ∃ t, u = .ref t ∧ H t = some (.tup p.tl)
def LineR (H : Hp) (q : Addr) (ps : List Pc) : Prop := ∃ xs, H q = some (.lst xs) ∧ xs.length ≤ 1000000 ∧ All2 (PcR H) xs ps
theorem PcR.same {H H' : Hp} {u : V} {p : Pc} (s : Same H H') (h : PcR H u p) : PcR H' u p := by
  obtain ⟨t, e, h⟩ := h
  exact ⟨t, e, s _ _ h⟩
theorem PcR.upd {H : Hp} {u : V} {p : Pc} {x : Addr} {xs ys : List V} (hx : H x = some (.lst xs)) (h : PcR H u p) : PcR (upd H x (.lst ys)) u p := by
  obtain ⟨t, e, h⟩ := h
  exact ⟨t, e, by rw [upd_ne (fun z => by rw [z, hx] at h; cases h)]; exact h⟩
theorem LineR.same {H H' : Hp} {q : Addr} {ps : List Pc} (s : Same H H') (h : LineR H q ps) : LineR H' q ps := by
  obtain ⟨xs, e, n, h⟩ := h
  exact ⟨xs, s _ _ e, n, h.mono fun _ _ => PcR.same s⟩
theorem LineR.upd {H : Hp} {q x : Addr} {ps : List Pc} {xs ys : List V} (hx : H x = some (.lst xs)) (hq : q ≠ x) (h : LineR H q ps) : LineR (upd H x (.lst ys)) q ps := by
  obtain ⟨zs, e, n, h⟩ := h
  exact ⟨zs, by rw [upd_ne hq]; exact e, n, h.mono fun _ _ => PcR.upd hx⟩
/-- a finished line: its list is new since H0, and none of p, q -/
def LnR (H0 H : Hp) (p q : Addr) (u : V) (ps : List Pc) : Prop := ∃ t, u = .ref t ∧ H0 t = none ∧ t ≠ p ∧ t ≠ q ∧ LineR H t ps
theorem LnR.same {H0 H H' : Hp} {p q : Addr} {u : V} {ps : List Pc} (s : Same H H') (h : LnR H0 H p q u ps) : LnR H0 H' p q u ps := by
  obtain ⟨t, e, h0, h1, h2, h⟩ := h
  exact ⟨t, e, h0, h1, h2, h.same s⟩
section
variable {P : Program} {w : World} {K : PySem.W.Frag} {mg : Str → Option Value} {base : Heap} {A : Ads}
def spLO (A : Ads) : Sp := fun vs H Q E => ∃ (l : List Nat), vs = [.str (S l)] ∧ l.length ≤ 1000000 ∧
  (∀ ls, scan 0 l [] = .ok ls → ∀ H' p us, Same H H' → H p = none → H' p = some (.lst us) → us.length ≤ 1000001 → All2 (LnR H H' p p) us ls → Q (.ref p) H') ∧ (∀ a b, scan 0 l [] = .err a b → ∀ H', Same H H' → ErrC E A H' a (msgC b))
theorem ok_lines_of (L : Lib P K mg A) (T : Tabs K w mg) : FnOk P w K mg base (L2.CX P w) 5 L.lines_of.f L.lines_of.fd ["text"] (spLO A) := by
  have G_comment_end : FnOk P w K mg base CX0 1 L.comment_end.f L.comment_end.fd ["text", "at"] spCE := ok_comment_end L
  have G_piece_at : FnOk P w K mg base (L2.CX P w) 4 L.piece_at.f L.piece_at.fd ["text", "at"] (spPA A) := ok_piece_at L T
  refine L.lines_of.F.okX (k := 4) sc_lines_of (fun vs H Q E h => ?_) (fun cdv A' outer s H vs Q E hr h => ?_)
  · obtain ⟨l, rfl, _⟩ := h
    rfl
  · obtain ⟨l, rfl, hl, q1, q2⟩ := h
    have hz := sizeLine_eq
    have hL : (S l).length = l.length := S_len l
    refine ⟨_, (pss_cons (ps_set (i := 1) sc_lines_of.nd rfl (.inl rfl) (pe_lst (pa_cons (pe_lst pa_nil) pa_nil)))
      (pss_cons (ps_set (i := 2) sc_lines_of.nd rfl (.inl rfl) pe_int)
      (pss_cons (ps_while (passes_of rfl) (pt_cmpR op_lt (pv 2) (pe_callB call_len_str (by rfl) L.z_len PySem.boot_len (pa_cons (pv 0) pa_nil)) (nomark _))
        (pss_one (ps_if (pt_cmpR op_eq (pe_ix ix_str (pv 0) (pv 2) (fun _ _ => rfl)) pe_str (nomark _))
        (pss_cons (ps_expr (pe_bm PySem.F.plainAttrs_list PySem.F.slot_list_append PySem.F.type_list_append mt_append (pv 1) (pa_cons (pe_lst pa_nil) pa_nil)))
      (pss_one (ps_aug (i := 2) sc_lines_of.nd rfl (.inl rfl) pe_int in_add)))
        (pss_one (ps_if (pt_cmpR op_eq (pe_ix ix_str (pv 0) (pv 2) (fun _ _ => rfl)) pe_str (nomark _))
        (pss_one (ps_aug (i := 2) sc_lines_of.nd rfl (.inl rfl) pe_int in_add))
        (pss_one (ps_if (pt_cmpR op_eq (pe_ix ix_str (pv 0) (pv 2) (fun _ _ => rfl)) pe_str (nomark _))
        (pss_one (ps_set (i := 2) sc_lines_of.nd rfl (.inl rfl) (pe_call G_comment_end (hr.mono (by omega)) (by rfl) L.comment_end.g L.comment_end.F.kp L.comment_end.b .nil pass0 (pa_cons (pv 0) (pa_cons (pv 2) pa_nil)))))
        (pss_cons (ps_asg (pe_callS G_piece_at (hr.mono (by omega)) (by rfl) L.piece_at.g L.piece_at.F.kp L.piece_at.b (fun σ => passAt (takes_of rfl rfl rfl rfl) σ) (pa_cons (pv 0) (pa_cons (pv 2) pa_nil))) (pg_tup (by rfl) (pgs_cons (pg_name (i := 3) sc_lines_of.nd rfl (.inl rfl)) (pgs_cons (pg_name (i := 2) sc_lines_of.nd rfl (.inl rfl)) pgs_nil))))
      (pss_one (ps_expr (pe_bm PySem.F.plainAttrs_list PySem.F.slot_list_append PySem.F.type_list_append mt_append (pe_ix ix_list (pv 1) (pe_un un_neg pe_int) (fun _ _ => rfl)) (pa_cons (pv 3) pa_nil))))))))))))
      (pss_one (ps_ret (pv 1)))))), ?_⟩
    have e10 : (("\n" : Str)) = S [10] := by decide +kernel
    have e32 : ((" " : Str)) = S [32] := by decide +kernel
    have e59 : ((";" : Str)) = S [59] := by decide +kernel
    rw [e10, e32, e59]
    -- lines = [[]]
    refine ⟨(by show 0 ≤ sizeLine; decide), fun q0 nq0 => ⟨(by show 1 ≤ sizeLine; decide), fun p np => ?_⟩⟩
    have npq : p ≠ q0 := fun z => by rw [z, upd_same] at np; cases np
    rw [upd_ne npq] at np
    have s0 : Same H (upd (upd H q0 (.lst [])) p (.lst [.ref q0])) := fun b o h => by
      rw [upd_ne (ne_of_none h np), upd_ne (ne_of_none h nq0)]; exact h
    -- the loop
    refine ⟨fun m σ H' => ∃ (b : Nat) (us : List V) (q : Addr) (xs : List V) (done : List (List Pc)) (cur : List Pc) (y : Option V), σ = [some (.str (S l)), some (.ref p), some (.int (b : Int)), y] ∧ Same H H' ∧ H' p = some (.lst (us ++ [.ref q])) ∧ p ≠ q ∧ H q = none ∧
        All2 (LnR H H' p q) us done ∧ H' q = some (.lst xs) ∧ All2 (PcR H') xs cur ∧ (scan b (l.drop b) cur).pre done = scan 0 l [] ∧ b ≤ l.length ∧ us.length ≤ b ∧ xs.length ≤ b ∧ m = l.length - b,
      ⟨_, 0, [], q0, [], [], [], none, rfl, s0, upd_same, npq, nq0, trivial, by rw [upd_ne (Ne.symm npq), upd_same], trivial, ?_, Nat.zero_le _, Nat.zero_le _, Nat.zero_le _, rfl⟩, ?_⟩
    · show (scan 0 l []).pre [] = _
      cases scan 0 l [] <;> rfl
    rintro m σ H' ⟨b, us, q, xs, done, cur, y, rfl, s1, hp, hpq, nq, hus, hq, hxs, hsc, hb, hu, hx, rfl⟩
    refine ⟨_, rfl, _, rfl, _, rfl, (by walk_at "sz"), _, _, rfl, rfl, _, rfl, ite2 (fun e => ?_) (fun e => ?_)⟩
    · have hlt : b < l.length := by
        have := of_decide_eq_true e
        omega
      obtain ⟨c, r, hd⟩ : ∃ c r, l.drop b = c :: r := ⟨_, _, drop_cons hlt⟩
      obtain ⟨_, hg, hd2⟩ := drop_at hd
      refine ⟨fun σ' H' => ∃ (b' : Nat) (us : List V) (q : Addr) (xs : List V) (done : List (List Pc)) (cur : List Pc) (y : Option V), σ' = [some (.str (S l)), some (.ref p), some (.int (b' : Int)), y] ∧ Same H H' ∧ H' p = some (.lst (us ++ [.ref q])) ∧ p ≠ q ∧ H q = none ∧
        All2 (LnR H H' p q) us done ∧ H' q = some (.lst xs) ∧ All2 (PcR H') xs cur ∧ (scan b' (l.drop b') cur).pre done = scan 0 l [] ∧ b' ≤ l.length ∧ us.length ≤ b' ∧ xs.length ≤ b' ∧ b < b', ?_, ?_⟩
      · rintro σ' H1 ⟨b', us, q, xs, done, cur, y, rfl, h1, h2, h3, h4, h5, h6, h7, h8, h9, h10, h11, h12⟩
        exact ⟨_, by omega, b', us, q, xs, done, cur, y, rfl, h1, h2, h3, h4, h5, h6, h7, h8, h9, h10, h11, rfl⟩
      refine ⟨_, rfl, _, rfl, _, _, c, rfl, rfl, (by walk_at "sz"), atS l b c hg, rfl, _, rfl, ite2 (fun e => ?_) (fun e => ?_)⟩
      · have h10 : c = 10 := by
          have := V.str.inj (of_decide_eq_true e)
          injection S_inj this
        subst h10
        refine ⟨_, rfl, .inl ⟨rfl, _, SqL.of hp⟩, (by show 0 ≤ sizeLine; decide), fun q' nq' => ?_⟩
        have hp' : (upd H' q' (.lst [])) p = some (.lst (us ++ [.ref q])) := same_upd nq' _ _ hp
        have hpq' : p ≠ q' := fun z => by rw [← z, hp] at nq'; cases nq'
        have hqq' : q ≠ q' := fun z => by rw [← z, hq] at nq'; cases nq'
        refine ⟨p, _, _, rfl, rfl, hp', (by rw [List.length_append, List.length_singleton]; omega), ?_⟩
        refine ⟨_, rfl, _, _, rfl, rfl, b + 1, us ++ [.ref q], q', [], done ++ [cur], [], y, rfl, fun a o h => ?_, upd_same, hpq', s1.free nq', ?_, ?_, trivial, ?_, by omega, by rw [List.length_append, List.length_singleton]; omega, Nat.zero_le _, by omega⟩
        · rw [upd_ne (ne_of_none h np), upd_ne (ne_of_none (s1 _ _ h) nq')]
          exact s1 _ _ h
        · refine All2.snoc ⟨q, rfl, nq, Ne.symm hpq, hqq', ?_⟩ (hus.mono fun u ps h => ?_)
          · obtain ⟨t, e, h0, h1, h2, hl⟩ := h
            have ht : t ≠ q' := fun z => by
              obtain ⟨_, h, _⟩ := hl
              rw [z, nq'] at h
              cases h
            exact ⟨t, e, h0, h1, ht, (hl.same (same_upd nq')).upd hp' h1⟩
          · have : LineR H' q cur := ⟨xs, hq, by omega, hxs⟩
            exact (this.same (same_upd nq')).upd hp' (Ne.symm hpq)
        · rw [upd_ne (Ne.symm hpq')]
          exact upd_same
        · rw [← hsc, hd, scan_nl, Sc.pre_pre, hd2]
      have h10 : ¬ c = 10 := fun z => e (decide_eq_true (by rw [z]))
      refine ⟨_, rfl, _, rfl, _, _, c, rfl, rfl, (by walk_at "sz"), atS l b c hg, rfl, _, rfl, ite2 (fun e => ?_) (fun e => ?_)⟩
      · have h32 : c = 32 := by
          have := V.str.inj (of_decide_eq_true e)
          injection S_inj this
        subst h32
        refine ⟨_, rfl, _, _, rfl, rfl, b + 1, us, q, xs, done, cur, y, rfl, s1, hp, hpq, nq, hus, hq, hxs, ?_, by omega, by omega, by omega, by omega⟩
        rw [← hsc, hd, scan_sp, hd2]
      have h32 : ¬ c = 32 := fun z => e (decide_eq_true (by rw [z]))
      refine ⟨_, rfl, _, rfl, _, _, c, rfl, rfl, (by walk_at "sz"), atS l b c hg, rfl, _, rfl, ite2 (fun e => ?_) (fun e => ?_)⟩
      · have h59 : c = 59 := by
          have := V.str.inj (of_decide_eq_true e)
          injection S_inj this
        subst h59
        have hL1 : 1 ≤ Lx.line (l.drop b) := by
          rw [hd]
          exact Nat.succ_le_succ (Nat.zero_le _)
        have hL2 := Lx.line_le (l.drop b)
        rw [List.length_drop] at hL2
        refine ⟨_, rfl, _, rfl, l, b, rfl, hb, hl, b + Lx.line (l.drop b), us, q, xs, done, cur, y, rfl, s1, hp, hpq, nq, hus, hq, hxs, ?_, by omega, by omega, by omega, by omega⟩
        rw [← hsc, hd, scan_cm, ← hd, List.drop_drop]
      have h59 : ¬ c = 59 := fun z => e (decide_eq_true (by rw [z]))
      refine ⟨_, rfl, _, rfl, l, b, c, r, rfl, hl, hd, fun v n hp1 H1 p2 p3 two => ?_, fun bb hp1 H1 s2 => ?_⟩
      · have n1 := pieceF_len hp1
        have hp' := two.same _ _ hp
        have hq' := two.same _ _ hq
        refine ⟨p2, _, rfl, SqT.of two.ep, rfl, _, _, rfl, _, _, rfl, rfl, ?_⟩
        refine ⟨_, rfl, _, rfl, p, _, _, .ref q, rfl, rfl, SqL.of hp', atI_last _ _, .inl ⟨rfl, _, SqL.of hq'⟩, _, rfl, q, _, _, rfl, rfl, hq', (by omega), ?_⟩
        refine ⟨b + n, us, q, xs ++ [.ref p3], done, cur ++ [⟨b, v⟩], _, rfl, fun a o h => ?_, ?_, hpq, nq, ?_, upd_same, ?_, ?_, ?_, by omega, ?_, by omega⟩
        · rw [upd_ne (ne_of_none h nq)]
          exact two.same _ _ (s1 _ _ h)
        · rw [upd_ne hpq]
          exact hp'
        · refine hus.mono fun u ps h => ?_
          obtain ⟨t, e, h0, h1, h2, hl⟩ := h
          exact ⟨t, e, h0, h1, h2, (hl.same two.same).upd hq' h2⟩
        · refine All2.snoc (PcR.upd hq' ⟨p3, rfl, two.eq⟩) (hxs.mono fun u ps h => PcR.upd hq' (h.same two.same))
        · rw [← hsc, hd, scan_pc h10 h32 h59 hp1, ← hd, List.drop_drop]
        · have := congrArg List.length hd
          rw [List.length_drop, List.length_cons] at this
          omega
        · rw [List.length_append, List.length_singleton]
          omega
      · exact q2 b bb (by rw [← hsc, hd, scan_er h10 h32 h59 hp1]; rfl) _ (s1.trans s2)
    · have hge : b = l.length := by
        have : ¬ (b : Int) < ((S l).length : Nat) := fun z => e (decide_eq_true z)
        omega
      refine ⟨_, rfl, q1 (done ++ [cur]) ?_ _ p (us ++ [.ref q]) s1 np hp (by rw [List.length_append, List.length_singleton]; omega) ?_⟩
      · rw [← hsc, hge, List.drop_length, scan_nil]
        rfl
      · refine All2.snoc ⟨q, rfl, nq, Ne.symm hpq, Ne.symm hpq, xs, hq, by omega, hxs⟩ (hus.mono fun u ps h => ?_)
        obtain ⟨t, e, h0, h1, h2, hl⟩ := h
        exact ⟨t, e, h0, h1, h1, hl⟩
end
end My
/-! ### kinds_in, is_small, begins_function -/
namespace My
open PySem L2 SX XT XS XE
open C8 (pss_cut tCut cutS_slice pe_gc)
theorem units64 {k : Nat} {A : Around} (r : Room k A) : A.units + 64 < cLine := by have := r.un; omega
def kindsF (ps : List Pc) : List Str := ps.map fun p => p.v.k
theorem Pv.k_w {v : Pv} (h : v.k = "word") : ∃ x, v = .w x := by
  cases v with
  | w x => exact ⟨x, rfl⟩
  | c => exact absurd h (by decide +kernel)
  | t x => exact absurd h (by show ¬ (("text" : Str) = "word"); decide +kernel)
  | n i => exact absurd h (by show ¬ (("number" : Str) = "word"); decide +kernel)
theorem Pv.k_n {v : Pv} (h : v.k = "number") : ∃ x, v = .n x := by
  cases v with
  | n x => exact ⟨x, rfl⟩
  | c => exact absurd h (by decide +kernel)
  | t x => exact absurd h (by show ¬ (("text" : Str) = "number"); decide +kernel)
  | w i => exact absurd h (by show ¬ (("word" : Str) = "number"); decide +kernel)
theorem Pv.k_c {v : Pv} (h : v.k = "colon") : v = .c := by
  cases v with
  | c => rfl
  | n x => exact absurd h (by show ¬ (("number" : Str) = "colon"); decide +kernel)
  | t x => exact absurd h (by show ¬ (("text" : Str) = "colon"); decide +kernel)
  | w i => exact absurd h (by show ¬ (("word" : Str) = "colon"); decide +kernel)
theorem k_ok (v : Pv) : PyData.canLay0 (.str v.k) = true := by
  cases v with
  | w x => show PyData.canLay0 (.str "word") = true; decide +kernel
  | c => show PyData.canLay0 (.str "colon") = true; decide +kernel
  | t x => show PyData.canLay0 (.str "text") = true; decide +kernel
  | n x => show PyData.canLay0 (.str "number") = true; decide +kernel
theorem lay_strs : ∀ (ks : List Str), (∀ k ∈ ks, PyData.canLay0 (.str k) = true) → PyData.canLayAll0 (ks.map PyData.str) = true ∧ PyData.depthAll (ks.map PyData.str) = 0
  | [], _ => ⟨rfl, rfl⟩
  | k :: ks, h => by
    have ⟨h1, h2⟩ := lay_strs ks fun x hx => h x (List.mem_cons_of_mem _ hx)
    have h0 := h k List.mem_cons_self
    constructor
    · show (PyData.canLay0 (.str k) && PyData.canLayAll0 (ks.map PyData.str)) = true
      rw [h1, h0]
      rfl
    · show max (PyData.depth (.str k)) (PyData.depthAll (ks.map PyData.str)) = 0
      rw [h2]
      rfl
theorem shaped_strs {ks : List Str} (h : ∀ k ∈ ks, PyData.canLay0 (.str k) = true) : SeqAt.shaped (.list (ks.map PyData.str)) = true := by
  have ⟨h1, h2⟩ := lay_strs ks h
  show (PyData.canLay0 (.list _) && decide (PyData.depth (.list _) ≤ 64)) = true
  rw [show PyData.canLay0 (.list (ks.map PyData.str)) = true from by simpa [PyData.canLay0] using h1, show PyData.depth (.list (ks.map PyData.str)) = 1 from by simp [PyData.depth, h2]]
  rfl
theorem eqv_strs : ∀ (ks ls : List Str), PyData.eqv (.list (ks.map PyData.str)) (.list (ls.map PyData.str)) = decide (ks = ls) := by
  intro ks
  induction ks with
  | nil =>
    intro ls
    cases ls with
    | nil => simp [PyData.eqv, PyData.eqvAll]
    | cons l ls => simp [PyData.eqv, PyData.eqvAll]
  | cons k ks ih =>
    intro ls
    cases ls with
    | nil => simp [PyData.eqv, PyData.eqvAll]
    | cons l ls =>
      have := ih ls
      simp only [PyData.eqv] at this
      simp only [List.map_cons, PyData.eqv, PyData.eqvAll, this]
      rw [Bool.eq_iff_iff]
      simp
theorem dp_strs {K : PySem.W.Frag} {H : Hp} : ∀ ks : List Str, DpAll K H (ks.map V.str) (ks.map PyData.str)
  | [] => .nil
  | k :: ks => .cons (.str k) (dp_strs ks)
theorem dp_lst {K : PySem.W.Frag} {H : Hp} {r : Addr} {ks : List Str} (h : H r = some (.lst (ks.map V.str))) : Dp K H (.ref r) (.list (ks.map PyData.str)) := .lst (SqL.of h) (dp_strs ks)
def smallF (p : Pc) : Bool := match p.v with
  | .n i => decide (0 ≤ i) && decide (i ≤ 999999999)
  | _ => false
def fnC : List Nat := [102, 117, 110, 99, 116, 105, 111, 110]
def begF : List Pc → Bool
  | [⟨_, .w x⟩, p, q] => (decide (x = fnC) && smallF p) && smallF q
  | _ => false
section
variable {P : Program} {w : World} {K : PySem.W.Frag} {mg : Str → Option Value} {base : Heap} {A : Ads}
def spKi : Sp := fun vs H Q _ => ∃ (q : Addr) (ps : List Pc), vs = [.ref q] ∧ LineR H q ps ∧ ∀ H' r, Same H H' → H r = none → H' r = some (.lst ((kindsF ps).map V.str)) → Q (.ref r) H'
theorem ok_kinds_in (L : Lib P K mg A) : FnOk P w K mg base CX0 1 L.kinds_in.f L.kinds_in.fd ["pieces"] spKi := by
  refine L.kinds_in.F.ok sc_kinds_in (fun vs H Q E h => ?_) (fun cdv A' outer s H vs Q E hr h => ?_)
  · obtain ⟨q, ps, rfl, _⟩ := h
    rfl
  · obtain ⟨q, ps, rfl, ⟨xs, hq, hn, hxs⟩, qq⟩ := h
    have hz := sizeLine_eq
    refine ⟨_, (pss_one (ps_ret (pe_lc (own := [("piece", 1)]) (g := gName 1) (tt := tYes) (by rfl) sc_kinds_in.nd (pi_list (pv 0)) (blkOk_by (own := [("piece", 1)]) (N := ["pieces", "piece"]) (sc := defScope (top 34)) (by decide +kernel)) (fun _ _ _ _ _ => (pg_name (i := 1) sc_kinds_in.nd rfl (.inl rfl))) (fun _ _ _ _ _ => pts_nil) (fun _ _ _ _ _ => (pe_ix (show IxR _ (rIxT K) from by exact ix_tup) (pv 1) pe_int (fun _ _ => rfl)))))), ?_⟩
    refine ⟨_, rfl, q, rfl, ⟨_, SqL.of hq⟩, fun D nD => lc_list (K := K) (a := q) (xs := xs) (fun i H' => Same H H' ∧ H' D = some (.lst ((kindsF (ps.take i)).map V.str))) ⟨same_upd nD, upd_same⟩ (fun i H' _ h => SqL.of (h.1 _ _ hq)) ?_ ?_⟩
    · rintro i v H1 hv ⟨s1, e1⟩
      obtain ⟨p, hp, t, rfl, ht⟩ := hxs.get hv
      have hi : i < ps.length := (List.getElem?_eq_some_iff.mp hp).1
      have hlen := hxs.len
      refine ⟨rfl, _, rfl, t, _, _, .str p.v.k, rfl, rfl, SqT.of (s1 _ _ ht), rfl, _, e1, ?_, My.Same.put s1 nD, ?_⟩
      · rw [List.length_map]
        show (List.map _ _).length < _
        rw [List.length_map, List.length_take]
        omega
      · rw [upd_same, List.take_add_one, hp]
        show _ = some (HO.lst (List.map V.str (List.map _ (_ ++ [p]))))
        rw [List.map_append, List.map_append]
        rfl
    · rintro H1 ⟨s1, e1⟩
      rw [hxs.len, List.take_length] at e1
      exact qq _ D s1 nD e1
def spSm : Sp := fun vs H Q _ => ∃ (t : Addr) (p : Pc), vs = [.ref t] ∧ H t = some (.tup p.tl) ∧ Q (.bl (smallF p)) H
theorem ok_is_small (L : Lib P K mg A) : FnOk P w K mg base CX0 1 L.is_small.f L.is_small.fd ["piece"] spSm := by
  refine L.is_small.F.ok sc_is_small (fun vs H Q E h => ?_) (fun cdv A' outer s H vs Q E hr h => ?_)
  · obtain ⟨t, p, rfl, _⟩ := h
    rfl
  · obtain ⟨t, p, rfl, ht, q⟩ := h
    refine ⟨_, (pss_one (ps_ret (pe_and (pe_cmpR op_eq (pe_ix ix_tup (pv 0) pe_int (fun _ _ => rfl)) pe_str (nomark _)) (pe_one (pe_chain op_le op_le pe_int (pe_ix ix_tup (pv 0) pe_int (fun _ _ => rfl)) (pe_glob (v := .int 999999999) (by rfl) L.v_MOST_NUMBER.choose_spec ⟨_, rfl⟩)))))), ?_⟩
    refine ⟨_, rfl, t, _, _, .str p.v.k, rfl, rfl, SqT.of ht, rfl, rfl, _, rfl, ?_⟩
    by_cases hk : p.v.k = "number"
    · obtain ⟨i, hi⟩ := Pv.k_n hk
      have e : smallF p = (decide (0 ≤ i) && decide (i ≤ 999999999)) := by unfold smallF; rw [hi]
      rw [e] at q
      refine ifT (decide_eq_true (by rw [hk])) ?_
      refine ⟨_, rfl, t, _, _, .int i, rfl, rfl, SqT.of ht, (by show some p.v.V = some (V.int i); rw [hi]; rfl), _, _, rfl, rfl, _, rfl, ite2 (fun e => ?_) (fun e => ?_)⟩
      · rw [e, Bool.true_and] at q
        exact ⟨_, _, rfl, rfl, q⟩
      · rw [Bool.not_eq_true] at e
        rw [e, Bool.false_and] at q
        exact q
    · have e : smallF p = false := by
        unfold smallF
        cases hv : p.v with
        | n i => rw [hv] at hk; exact absurd rfl hk
        | _ => rfl
      rw [e] at q
      exact ifF (decide_eq_false fun z => hk (V.str.inj z)) q
def spBf : Sp := fun vs H Q _ => ∃ (q : Addr) (ps : List Pc), vs = [.ref q] ∧ LineR H q ps ∧ ∀ H', Same H H' → Q (.bl (begF ps)) H'
abbrev kWNN : List Str := ["word", "number", "number"]
theorem kinds3 : ∀ {ps : List Pc}, kindsF ps = kWNN → ∃ a x p q, ps = [⟨a, .w x⟩, p, q]
  | [⟨a, v⟩, p, q], h => by
    have h1 : v.k = "word" := by
      have h' : [v.k, p.v.k, q.v.k] = kWNN := h
      injection h'
    obtain ⟨x, rfl⟩ := Pv.k_w h1
    exact ⟨a, x, p, q, rfl⟩
  | [], h => absurd (congrArg List.length h) (by decide)
  | [_], h => absurd (congrArg List.length h) (by simp [kindsF])
  | [_, _], h => absurd (congrArg List.length h) (by simp [kindsF])
  | _ :: _ :: _ :: _ :: _, h => absurd (congrArg List.length h) (by simp [kindsF])
theorem begF_kinds {ps : List Pc} (h : ¬ kindsF ps = kWNN) : begF ps = false := by
  unfold begF
  split
  · rename_i a x p q
    by_cases h1 : smallF p = true
    · by_cases h2 : smallF q = true
      · exfalso
        apply h
        have e : ∀ {p : Pc}, smallF p = true → p.v.k = "number" := fun {p} h => by
          unfold smallF at h
          split at h
          · rename_i e; rw [e]; rfl
          · cases h
        show ([_, p.v.k, q.v.k] : List Str) = _
        rw [e h1, e h2]
        rfl
      · rw [Bool.not_eq_true] at h2
        rw [h2, Bool.and_false]
    · rw [Bool.not_eq_true] at h1
      rw [h1, Bool.and_false, Bool.false_and]
  · rfl
theorem ok_begins_function (L : Lib P K mg A) : FnOk P w K mg base CX0 2 L.begins_function.f L.begins_function.fd ["line"] spBf := by
  have G_kinds_in : FnOk P w K mg base CX0 1 L.kinds_in.f L.kinds_in.fd ["pieces"] spKi := ok_kinds_in L
  have G_is_small : FnOk P w K mg base CX0 1 L.is_small.f L.is_small.fd ["piece"] spSm := ok_is_small L
  refine L.begins_function.F.ok sc_begins_function (fun vs H Q E h => ?_) (fun cdv A' outer s H vs Q E hr h => ?_)
  · obtain ⟨q, ps, rfl, _⟩ := h
    rfl
  · obtain ⟨q, ps, rfl, hl, qq⟩ := h
    refine ⟨_, (pss_cons (ps_if (PW.pt (pw_or (pt_cmpR (op_neD (units64 hr)) (pe_call G_kinds_in (hr.mono (by omega)) (by rfl) L.kinds_in.g L.kinds_in.F.kp L.kinds_in.b .nil pass0 (pa_cons (pv 0) pa_nil)) (pe_lst (pa_cons pe_str (pa_cons pe_str (pa_cons pe_str pa_nil)))) (nomark _)) (pw_or1 (pt_cmpR op_ne (pe_ix ix_tup (pe_ix ix_list (pv 0) pe_int (fun _ _ => rfl)) pe_int (fun _ _ => rfl)) pe_str (nomark _)))))
        (pss_one (ps_ret pe_bl))
        pss_nil)
      (pss_one (ps_ret (pe_and (pe_call G_is_small (hr.mono (by omega)) (by rfl) L.is_small.g L.is_small.F.kp L.is_small.b .nil pass0 (pa_cons (pe_ix ix_list (pv 0) pe_int (fun _ _ => rfl)) pa_nil)) (pe_one (pe_call G_is_small (hr.mono (by omega)) (by rfl) L.is_small.g L.is_small.F.kp L.is_small.b .nil pass0 (pa_cons (pe_ix ix_list (pv 0) pe_int (fun _ _ => rfl)) pa_nil))))))), ?_⟩
    refine ⟨_, rfl, q, ps, rfl, hl, fun H1 r s1 nr er => ?_⟩
    refine ⟨(by show 3 ≤ sizeLine; decide), fun D nD => ?_⟩
    have er' := same_upd (o := .lst [.str "word", .str "number", .str "number"]) nD _ _ er
    have s2 : Same H (upd H1 D (.lst [.str "word", .str "number", .str "number"])) := s1.trans (same_upd nD)
    have eD : upd H1 D (.lst [.str "word", .str "number", .str "number"]) D = some (.lst (kWNN.map V.str)) := upd_same
    generalize upd H1 D _ = H2 at er' s2 eD ⊢
    refine ⟨_, _, dp_lst er', dp_lst eD, shaped_strs fun k hk => ?_, shaped_strs (by decide +kernel), ?_⟩
    · obtain ⟨p, _, rfl⟩ := List.mem_map.mp hk
      exact k_ok p.v
    rw [eqv_strs]
    refine ⟨_, rfl, ?_⟩
    by_cases hk : kindsF ps = kWNN
    · obtain ⟨a, x, p1, p2, rfl⟩ := kinds3 hk
      obtain ⟨xs, hq, _, hxs⟩ := hl.same s2
      refine ifF (by rw [decide_eq_true hk]; rfl) ?_
      obtain ⟨_ | ⟨v0, _ | ⟨v1, _ | ⟨v2, _ | _⟩⟩⟩, hq, hxs⟩ : ∃ xs : List V, H2 q = some (.lst xs) ∧ All2 (PcR H2) xs [⟨a, .w x⟩, p1, p2] := ⟨xs, hq, hxs⟩
      · exact hxs.elim
      · exact hxs.2.elim
      · exact hxs.2.2.elim
      · obtain ⟨⟨t0, rfl, h0⟩, ⟨t1, rfl, h1⟩, ⟨t2, rfl, h2⟩, _⟩ := hxs
        refine ⟨_, rfl, q, _, _, .ref t0, rfl, rfl, SqL.of hq, rfl, t0, _, _, .str (S x), rfl, rfl, SqT.of h0, rfl, rfl, _, rfl, ?_⟩
        have qf := qq _ s2
        have ew : (("function" : Str)) = S fnC := by decide +kernel
        by_cases hx : x = fnC
        · refine ifF (by rw [ew, hx]; show (!decide (V.str (S fnC) = V.str (S fnC))) = false; rw [decide_eq_true rfl]; rfl) ?_
          have e : begF [⟨a, .w x⟩, p1, p2] = (smallF p1 && smallF p2) := by
            show ((decide (x = fnC) && smallF p1) && smallF p2) = _
            rw [decide_eq_true hx, Bool.true_and]
          rw [e] at qf
          refine ⟨_, rfl, q, _, _, .ref t1, rfl, rfl, SqL.of hq, rfl, t1, p1, rfl, h1, _, rfl, ite2 (fun e => ?_) (fun e => ?_)⟩
          · rw [e, Bool.true_and] at qf
            exact ⟨_, rfl, q, _, _, .ref t2, rfl, rfl, SqL.of hq, rfl, t2, p2, rfl, h2, qf⟩
          · rw [Bool.not_eq_true] at e
            rw [e, Bool.false_and] at qf
            exact qf
        · have e : begF [⟨a, .w x⟩, p1, p2] = false := by
            show ((decide (x = fnC) && smallF p1) && smallF p2) = _
            rw [decide_eq_false hx, Bool.false_and, Bool.false_and]
          rw [e] at qf
          exact ifT (by rw [ew]; show (!decide (V.str (S x) = V.str (S fnC))) = true; rw [decide_eq_false fun z => hx (S_inj (V.str.inj z))]; rfl) qf
      · exact hxs.2.2.2.elim
    · have qf := qq _ s2
      rw [begF_kinds hk] at qf
      exact ifT (by rw [decide_eq_false hk]; rfl) qf
end
end My
/-! ### values of const -/
namespace My
open PySem L2 SX XT XS XE
open C8 (pss_cut tCut cutS_slice pe_gc)
/-! ### integers -/
@[irreducible] def lim : Nat := 10 ^ 300
theorem bits_lim : 2 ^ 996 ≤ lim := by unfold lim; decide +kernel
theorem nat_bits {n : Nat} (h : n.log2 < 996) : n < 2 ^ 996 := by
  by_cases h0 : n = 0
  · rw [h0]; exact Nat.two_pow_pos _
  · exact (Nat.log2_lt h0).mp h
theorem lt_of_bits {i : Int} (h : (Builtin.Int.intBits i : Int) < 997) : i.natAbs < lim := by
  have h' : Builtin.Int.intBits i < 997 := by exact_mod_cast h
  unfold Builtin.Int.intBits at h'
  refine Nat.lt_of_lt_of_le (nat_bits ?_) bits_lim
  split at h' 
  · rename_i h0
    have : i.natAbs = 0 := by simp_all
    rw [this]; decide
  · omega
def CPowX (i j : Int) : Prop := 0 ≤ j ∧ (Builtin.Int.intBits i : Int) * j ≤ 2 ^ 27
theorem op_powX {X : Cx} : OpR X (binaryOp .Pow) (rI CPowX fun i j => .int (i ^ j.toNat)) := opI fun _ _ _ _ _ _ _ hc q => PyProof.Rows.pow_int hc.1 hc.2 q
section
variable {P : Program} {w : World} {K : PySem.W.Frag} {mg : Str → Option Value} {base : Heap} {A : Ads}
def spIsBounded : Sp := fun vs H Q _ => ∃ i : Int, vs = [.int i] ∧ Q (.bl (decide (i.natAbs < lim))) H
theorem ok_is_bounded (L : Lib P K mg A) : FnOk P w K mg base CX0 1 L.is_bounded.f L.is_bounded.fd ["number"] spIsBounded := by
  refine L.is_bounded.F.ok sc_is_bounded (fun vs H Q E h => ?_) (fun cdv A' outer s H vs Q E hr h => ?_)
  · obtain ⟨i, rfl, _⟩ := h
    rfl
  · obtain ⟨i, rfl, q⟩ := h
    refine ⟨_, (pss_one (ps_ret (pe_or (pe_cmpR op_lt (pe_bits (pv 0)) (pe_glob (v := .int 997) (by rfl) L.v_DOUBTFUL_BITS.choose_spec ⟨_, rfl⟩) (nomark _)) (pe_one (pe_cmpR op_lt (pe_callB call_abs (by rfl) L.z_abs (by decide +kernel) (pa_cons (pv 0) pa_nil)) (pe_op op_powX (pe_op op_pow pe_int pe_int) pe_int) (nomark _)))))), ?_⟩
    refine ⟨_, rfl, _, rfl, _, _, rfl, rfl, _, rfl, ite2 (fun h => ?_) fun _ => ?_⟩
    · rw [show decide (i.natAbs < lim) = true from decide_eq_true (lt_of_bits (of_decide_eq_true h))] at q
      exact q
    · refine ⟨_, rfl, _, rfl, _, _, rfl, rfl, ⟨by decide, by decide, by decide⟩, _, _, rfl, rfl, ⟨by decide, by decide +kernel⟩, _, _, rfl, rfl, ?_⟩
      have e : decide ((if i < 0 then -i else i) < ((10 : Int) ^ (60 : Int).toNat) ^ (5 : Int).toNat) = decide (i.natAbs < lim) := by
        have e1 : ((10 : Int) ^ (60 : Int).toNat) ^ (5 : Int).toNat = (lim : Int) := by
          unfold lim
          decide +kernel
        rw [e1, decide_eq_decide]
        split <;> omega
      show Q (.bl (decide ((if i < 0 then -i else i) < ((10 : Int) ^ (60 : Int).toNat) ^ (5 : Int).toNat))) H
      rw [e]
      exact q
theorem Same.made' {H H1 : Hp} {a d : Addr} {u v : HO} (na : H a = none) (nd : H d = none) (k : Keep a (upd (upd H d u) a v) H1) : Same H H1 := fun b x e => by
  have n1 : b ≠ a := ne_of_none e na
  have n2 : b ≠ d := ne_of_none e nd
  exact k _ _ (by rw [upd_ne n1, upd_ne n2]; exact e) n1
def prC : List Nat := [112, 114, 105, 110, 116]
def nilC : List Nat := [110, 105, 108]
def rdC : List Nat := [114, 101, 97, 100, 115]
/-- the words that stand behind `const` in the law -/
def vwOk (x : List Nat) : Prop := x = prC ∨ x = nilC ∨ x = rdC
def valF (p : Pc) : Bool := match p.v with
  | .w x => decide (x = prC)
  | .c => false
  | .t _ => true
  | .n i => decide (i.natAbs < lim)
def valOk (p : Pc) : Prop := match p.v with
  | .w x => vwOk x
  | _ => True
/-- what the words behind `const` are in the table WORDS -/
def NoWords (K : PySem.W.Frag) (wA : Addr) : Prop := ∀ x, vwOk x → PySem.W.nsIn K wA (S x) = some none
abbrev bltV : List V := [.str "print", .str "read", .str "str", .str "int", .str "len", .str "range", .str "kind", .str "abs", .str "min", .str "max", .str "pow", .str "gcd", .str "sqrt", .str "base", .str "parse", .str "char", .str "assert", .str "copy", .str "equals"]
theorem in_blt {x : List Nat} (h : vwOk x) : inV (.str (S x)) bltV = decide (x = prC) := by
  rcases h with rfl | rfl | rfl <;> decide +kernel
def spVn : Sp := fun vs H Q _ => ∃ x, vs = [.str (S x)] ∧ vwOk x ∧ x = prC ∧ ∀ H' v, Same H H' → Q v H'
theorem ok_value_named (L : Lib P K mg A) : FnOk P w K mg base CX0 4 L.value_named.f L.value_named.fd ["name"] spVn := by
  have G_Builtin_init : FnOk P w K mg base CX0 1 L.Builtin_init.f L.Builtin_init.fd ["self", "name"] (spI1 A.Builtin "name") := ok_Builtin_init L
  have G_Ref_init : FnOk P w K mg base CX0 1 L.Ref_init.f L.Ref_init.fd ["self", "number"] (spI1 A.Ref "number") := ok_Ref_init L
  refine L.value_named.F.ok sc_value_named (fun vs H Q E h => ?_) (fun cdv A' outer s H vs Q E hr h => ?_)
  · obtain ⟨x, rfl, _⟩ := h
    rfl
  · obtain ⟨x, rfl, hw, hx, q⟩ := h
    refine ⟨_, (pss_one (ps_ret (pe_ifExp (pt_cmpR op_in_seq (pv 0) (pe_gc (v := .ref L.v_BUILTINS.a) (by rfl) ⟨_, L.v_BUILTINS.g, rfl⟩) (by rfl)) (pe_make L.Builtin_init.m G_Builtin_init (hr.mono (by omega)) (by rfl) L.c_Builtin.g L.Builtin_init.b .nil pass0 (pa_cons (pv 0) pa_nil)) (pe_make L.Ref_init.m G_Ref_init (hr.mono (by omega)) (by rfl) L.c_Ref.g L.Ref_init.b .nil pass0 (pa_cons pe_int pa_nil))))), ?_⟩
    refine ⟨_, rfl, L.v_BUILTINS.a, _, rfl, .inr (L.v_BUILTINS.s _), rfl, rfl, _, rfl, ite2 (fun e => ?_) (fun e => ?_)⟩
    · refine ⟨_, rfl, ?_⟩
      intro a d na nd nad
      exact ⟨a, d, _, rfl, upd_same, fun H1 k1 h1 => ⟨rfl, q _ _ (My.Same.made' na nd k1)⟩⟩
    · exact absurd (by show inV (.str (S x)) bltV = true; rw [in_blt hw, hx]; exact decide_eq_true rfl) e
def spIv : Sp := fun vs H Q _ => ∃ (t : Addr) (p : Pc), vs = [.ref t] ∧ H t = some (.tup p.tl) ∧ valOk p ∧ Q (.bl (valF p)) H
theorem ok_is_value (L : Lib P K mg A) (T : Tabs K w mg) (hN : NoWords K T.wA) : FnOk P w K mg base CX0 2 L.is_value.f L.is_value.fd ["piece"] spIv := by
  have G_is_bounded : FnOk P w K mg base CX0 1 L.is_bounded.f L.is_bounded.fd ["number"] spIsBounded := ok_is_bounded L
  obtain ⟨es, n, DW⟩ := T.dW
  refine L.is_value.F.ok sc_is_value (fun vs H Q E h => ?_) (fun cdv A' outer s H vs Q E hr h => ?_)
  · obtain ⟨t, p, rfl, _⟩ := h
    rfl
  · obtain ⟨t, p, rfl, ht, hv, q⟩ := h
    refine ⟨_, (pss_cons (ps_asg (pv 0) (pg_tup (by rfl) (pgs_cons (pg_name (i := 1) sc_is_value.nd rfl (.inl rfl)) (pgs_cons (pg_name (i := 2) sc_is_value.nd rfl (.inl rfl)) (pgs_cons (pg_name (i := 3) sc_is_value.nd rfl (.inl rfl)) pgs_nil)))))
      (pss_cons (ps_if (pt_cmpR op_eq (pv 1) pe_str (nomark _))
        (pss_one (ps_ret (pe_or (pe_cmpR (op_in_kd DW) (pv 3) (pe_gc (v := .ref T.wA) (by rfl) ⟨_, T.gW, rfl⟩) (by rfl)) (pe_or (pe_cmpR op_eq (pv 3) pe_str (nomark _)) (pe_one (pe_cmpR op_in_seq (pv 3) (pe_gc (v := .ref L.v_BUILTINS.a) (by rfl) ⟨_, L.v_BUILTINS.g, rfl⟩) (by rfl)))))))
        pss_nil)
      (pss_one (ps_ret (pe_or (pe_cmpR op_eq (pv 1) pe_str (nomark _)) (pe_one (pe_and (pe_cmpR op_eq (pv 1) pe_str (nomark _)) (pe_one (pe_call G_is_bounded (hr.mono (by omega)) (by rfl) L.is_bounded.g L.is_bounded.F.kp L.is_bounded.b .nil pass0 (pa_cons (pv 3) pa_nil)))))))))), ?_⟩
    refine ⟨_, rfl, t, _, rfl, SqT.of ht, rfl, _, _, rfl, _, _, rfl, _, _, rfl, rfl, ?_⟩
    cases hp : p.v with
    | w x =>
      have hx : vwOk x := by unfold valOk at hv; rw [hp] at hv; exact hv
      have ev : valF p = decide (x = prC) := by unfold valF; rw [hp]
      rw [ev] at q
      refine ⟨_, rfl, rfl, _, rfl, ifT (decide_eq_true rfl) ?_⟩
      refine ⟨_, rfl, S x, none, rfl, rfl, hN x hx, _, rfl, iteF ?_⟩
      refine ⟨_, rfl, rfl, _, rfl, ifF (decide_eq_false fun z => ?_) ?_⟩
      · have := V.str.inj z
        rcases hx with rfl | rfl | rfl <;> exact absurd this (by decide +kernel)
      · refine ⟨_, rfl, L.v_BUILTINS.a, _, rfl, .inr (L.v_BUILTINS.s _), rfl, rfl, ?_⟩
        rw [← in_blt hx] at q
        exact q
    | c =>
      have ev : valF p = false := by unfold valF; rw [hp]
      rw [ev] at q
      refine ⟨_, rfl, rfl, _, rfl, ifF (by decide +kernel) ?_⟩
      refine ⟨_, rfl, rfl, _, rfl, ifF (by decide +kernel) ?_⟩
      exact ⟨_, rfl, rfl, _, rfl, ifF (by decide +kernel) q⟩
    | t x =>
      have ev : valF p = true := by unfold valF; rw [hp]
      rw [ev] at q
      refine ⟨_, rfl, rfl, _, rfl, ifF (show decide (V.str "text" = V.str "word") = false by decide +kernel) ?_⟩
      exact ⟨_, rfl, rfl, _, rfl, ifT (decide_eq_true rfl) q⟩
    | n i =>
      have ev : valF p = decide (i.natAbs < lim) := by unfold valF; rw [hp]
      rw [ev] at q
      refine ⟨_, rfl, rfl, _, rfl, ifF (show decide (V.str "number" = V.str "word") = false by decide +kernel) ?_⟩
      refine ⟨_, rfl, rfl, _, rfl, ifF (show decide (V.str "number" = V.str "text") = false by decide +kernel) ?_⟩
      refine ⟨_, rfl, rfl, _, rfl, ifT (decide_eq_true rfl) ?_⟩
      exact ⟨_, rfl, i, rfl, q⟩
def spVo : Sp := fun vs H Q _ => ∃ (t : Addr) (p : Pc), vs = [.ref t] ∧ H t = some (.tup p.tl) ∧ valOk p ∧ valF p = true ∧ ∀ H' v, Same H H' → Q v H'
theorem ok_value_of (L : Lib P K mg A) (T : Tabs K w mg) (hN : NoWords K T.wA) : FnOk P w K mg base CX0 5 L.value_of.f L.value_of.fd ["piece"] spVo := by
  have G_value_named : FnOk P w K mg base CX0 4 L.value_named.f L.value_named.fd ["name"] spVn := ok_value_named L
  obtain ⟨es, n, DW⟩ := T.dW
  refine L.value_of.F.ok sc_value_of (fun vs H Q E h => ?_) (fun cdv A' outer s H vs Q E hr h => ?_)
  · obtain ⟨t, p, rfl, _⟩ := h
    rfl
  · obtain ⟨t, p, rfl, ht, hv, hf, q⟩ := h
    refine ⟨_, (pss_cons (ps_asg (pv 0) (pg_tup (by rfl) (pgs_cons (pg_name (i := 1) sc_value_of.nd rfl (.inl rfl)) (pgs_cons (pg_name (i := 2) sc_value_of.nd rfl (.inl rfl)) (pgs_cons (pg_name (i := 3) sc_value_of.nd rfl (.inl rfl)) pgs_nil)))))
      (pss_cons (ps_if (pt_cmpR op_ne (pv 1) pe_str (nomark _))
        (pss_one (ps_ret (pv 3)))
        pss_nil)
      (pss_one (ps_ret (pe_ifExp (pt_cmpR (op_in_kd DW) (pv 3) (pe_gc (v := .ref T.wA) (by rfl) ⟨_, T.gW, rfl⟩) (by rfl)) (pe_ix ix_kdict (pe_gc (v := .ref T.wA) (by rfl) ⟨_, T.gW, rfl⟩) (pv 3) (fun _ _ => rfl)) (pe_call G_value_named (hr.mono (by omega)) (by rfl) L.value_named.g L.value_named.F.kp L.value_named.b .nil pass0 (pa_cons (pv 3) pa_nil))))))), ?_⟩
    refine ⟨_, rfl, t, _, rfl, SqT.of ht, rfl, _, _, rfl, _, _, rfl, _, _, rfl, rfl, ?_⟩
    by_cases hk : p.v.k = "word"
    · obtain ⟨x, hp⟩ := Pv.k_w hk
      have hx : vwOk x := by unfold valOk at hv; rw [hp] at hv; exact hv
      have ex : x = prC := by unfold valF at hf; rw [hp] at hf; exact of_decide_eq_true hf
      rw [hp]
      refine ⟨_, rfl, rfl, _, rfl, ifF (show (!decide (V.str "word" = V.str "word")) = false by decide +kernel) ?_⟩
      refine ⟨_, rfl, S x, none, rfl, rfl, hN x hx, _, rfl, iteF ?_⟩
      exact ⟨_, rfl, x, rfl, hx, ex, fun H' v s => q _ _ s⟩
    · refine ⟨_, rfl, rfl, _, rfl, ifT ?_ ⟨_, rfl, q _ _ fun b o h => h⟩⟩
      show (!decide (V.str p.v.k = V.str "word")) = true
      rw [decide_eq_false fun z => hk (V.str.inj z)]
      rfl
def spFi : Sp := fun vs H Q _ => ∃ (s : Str) (t : Addr) (p : Pc), vs = [.str s, .ref t] ∧ H t = some (.tup p.tl) ∧ (s = "value" → valOk p) ∧ Q (.bl (if s = "value" then valF p else if s = "name" then decide (p.v.k = "text") else smallF p)) H
theorem ok_fits (L : Lib P K mg A) (T : Tabs K w mg) (hN : NoWords K T.wA) : FnOk P w K mg base CX0 3 L.fits.f L.fits.fd ["shape", "piece"] spFi := by
  have G_is_value : FnOk P w K mg base CX0 2 L.is_value.f L.is_value.fd ["piece"] spIv := ok_is_value L T hN
  have G_is_small : FnOk P w K mg base CX0 1 L.is_small.f L.is_small.fd ["piece"] spSm := ok_is_small L
  refine L.fits.F.ok sc_fits (fun vs H Q E h => ?_) (fun cdv A' outer s H vs Q E hr h => ?_)
  · obtain ⟨z, t, p, rfl, _⟩ := h
    rfl
  · obtain ⟨z, t, p, rfl, ht, hv, q⟩ := h
    refine ⟨_, (pss_cons (ps_if (pt_cmpR op_eq (pv 0) pe_str (nomark _))
        (pss_one (ps_ret (pe_call G_is_value (hr.mono (by omega)) (by rfl) L.is_value.g L.is_value.F.kp L.is_value.b .nil pass0 (pa_cons (pv 1) pa_nil))))
        pss_nil)
      (pss_cons (ps_if (pt_cmpR op_eq (pv 0) pe_str (nomark _))
        (pss_one (ps_ret (pe_cmpR op_eq (pe_ix ix_tup (pv 1) pe_int (fun _ _ => rfl)) pe_str (nomark _))))
        pss_nil)
      (pss_one (ps_ret (pe_call G_is_small (hr.mono (by omega)) (by rfl) L.is_small.g L.is_small.F.kp L.is_small.b .nil pass0 (pa_cons (pv 1) pa_nil)))))), ?_⟩
    refine ⟨_, rfl, rfl, _, rfl, ite2 (fun e => ?_) (fun e => ?_)⟩
    · have hz : z = "value" := V.str.inj (of_decide_eq_true e)
      rw [if_pos hz] at q
      exact ⟨_, rfl, t, p, rfl, ht, hv hz, q⟩
    · have hz : ¬ z = "value" := fun y => e (decide_eq_true (by rw [y]))
      rw [if_neg hz] at q
      refine ⟨_, rfl, rfl, _, rfl, ite2 (fun e => ?_) (fun e => ?_)⟩
      · have hz : z = "name" := V.str.inj (of_decide_eq_true e)
        rw [if_pos hz] at q
        refine ⟨_, rfl, t, _, _, .str p.v.k, rfl, rfl, SqT.of ht, rfl, rfl, ?_⟩
        rw [show decide (p.v.k = "text") = decide (V.str p.v.k = V.str "text") by rw [decide_eq_decide]; exact ⟨fun e => by rw [e], V.str.inj⟩] at q
        exact q
      · have hz : ¬ z = "name" := fun y => e (decide_eq_true (by rw [y]))
        rw [if_neg hz] at q
        exact ⟨_, rfl, t, p, rfl, ht, q⟩
end
end My
/-! ### row_of -/
namespace My
open PySem L2 SX XT XS XE
open C8 (pss_cut tCut cutS_slice pe_gc)
/-- the first words that the law writes, and their shapes -/
def knownW : List (List Nat × Option (List Str)) :=
  [([99, 111, 110, 115, 116], some ["value"]), ([108, 111, 97, 100], some ["variable"]), ([112, 111, 112], some []), ([97, 100, 100], some ["offset"]), ([99, 97, 108, 108], some ["number", "offset"]), ([102, 105, 101, 108, 100], some ["name", "offset"]),
   ([114, 101, 116], some []), ([101, 115, 99, 97, 112, 101], some ["number", "number", "index"]), ([112, 111, 112, 115], none), (fnC, none), ([67, 111, 110, 115, 116], none), ([115, 101, 116], none)]
def shp (x : List Nat) : Option (Option (List Str)) := (knownW.find? fun p => decide (p.1 = x)).map (·.2)
def valOkB (p : Pc) : Bool := match p.v with
  | .w x => decide (x = prC) || decide (x = nilC) || decide (x = rdC)
  | _ => true
theorem valOk_of {p : Pc} (h : valOkB p = true) : valOk p := by
  obtain ⟨a, v⟩ := p
  cases v with
  | w x =>
    have h' : (decide (x = prC) || decide (x = nilC) || decide (x = rdC)) = true := h
    simp only [Bool.or_eq_true, decide_eq_true_eq] at h'
    show x = prC ∨ x = nilC ∨ x = rdC
    rcases h' with (h | h) | h
    · exact .inl h
    · exact .inr (.inl h)
    · exact .inr (.inr h)
  | c => exact trivial
  | t x => exact trivial
  | n i => exact trivial
def fitF (z : Str) (p : Pc) : Bool := if z = "value" then valF p else if z = "name" then decide (p.v.k = "text") else smallF p
def rowOkW : Option (Option (List Str)) → List Pc → Bool
  | none, _ => false
  | some none, _ => true
  | some (some zs), r => (zs.zip r).all fun a => (!decide (a.1 = ("value" : Str))) || valOkB a.2
def rowFW : Option (Option (List Str)) → List Pc → Bool
  | some (some zs), r => decide (r.length = zs.length) && (zs.zip r).all fun a => fitF a.1 a.2
  | _, _ => false
/-- the law's rows: of words that are known -/
def rowOk : List Pc → Bool
  | ⟨_, .w x⟩ :: r => rowOkW (shp x) r
  | _ => true
def rowF : List Pc → Bool
  | ⟨_, .w x⟩ :: r => rowFW (shp x) r
  | _ => false
theorem row_val {zs : List Str} {r : List Pc} (h : rowOkW (some (some zs)) r = true) {z : Str} {p : Pc} (hm : (z, p) ∈ zs.zip r) (hz : z = "value") : valOkB p = true := by
  have h1 := List.all_eq_true.mp h _ hm
  have h2 : (!decide (z = ("value" : Str)) || valOkB p) = true := h1
  rw [decide_eq_true hz] at h2
  exact h2
structure Shp (K : PySem.W.Frag) (sA : Addr) : Prop where
  no : ∀ x, shp x = some none → PySem.W.nsIn K sA (S x) = some none
  ok : ∀ x zs, shp x = some (some zs) → ∃ u a, PySem.W.nsIn K sA (S x) = some (some u) ∧ RelV (.ref a) u ∧ ∀ H, SqT K H a (zs.map V.str)
theorem fit_all {zs : List Str} {r : List Pc} (h : zs.length = r.length) : ((List.range zs.length).all fun i => match zs[i]?, r[i]? with
    | some z, some p => fitF z p
    | _, _ => false) = (zs.zip r).all fun a => fitF a.1 a.2 := by
  rw [Bool.eq_iff_iff, List.all_eq_true, List.all_eq_true]
  constructor
  · rintro h1 ⟨z, p⟩ hm
    obtain ⟨i, hi⟩ := List.getElem?_of_mem hm
    rw [List.getElem?_zip_eq_some] at hi
    have := h1 i (List.mem_range.mpr (List.getElem?_eq_some_iff.mp hi.1).1)
    rw [hi.1, hi.2] at this
    exact this
  · intro h1 i hi
    rw [List.mem_range] at hi
    have e1 : zs[i]? = some zs[i] := List.getElem?_eq_getElem hi
    have e2 : r[i]? = some (r[i]'(by omega)) := List.getElem?_eq_getElem (by omega)
    rw [e1, e2]
    exact h1 (zs[i], r[i]'(by omega)) (List.mem_of_getElem? (i := i) (by rw [List.getElem?_zip_eq_some]; exact ⟨e1, e2⟩))
theorem cutV1 (v : V) (vs : List V) : cutV (v :: vs) (some 1) none = vs := by
  have e1 : HT.sIx (v :: vs).length 0 (some 1) = 1 := by
    rw [show (1 : Int) = ((1 : Nat) : Int) from rfl, HT.sIx_nat, List.length_cons]
    omega
  have e2 : HT.sIx (v :: vs).length (v :: vs).length none = vs.length + 1 := rfl
  unfold cutV
  rw [e1, e2, List.drop_succ_cons, List.drop_zero, Nat.add_sub_cancel, List.take_length]
section
variable {P : Program} {w : World} {K : PySem.W.Frag} {mg : Str → Option Value} {base : Heap} {A : Ads}
def spRo : Sp := fun vs H Q _ => ∃ (q : Addr) (ps : List Pc), vs = [.ref q] ∧ LineR H q ps ∧ rowOk ps = true ∧ (rowF ps = true → ∀ H' t, Same H H' → Q (.ref t) H') ∧ (rowF ps = false → ∀ H', Same H H' → Q .non H')
theorem ok_row_of (L : Lib P K mg A) (T : Tabs K w mg) (hN : NoWords K T.wA) (hS : Shp K T.sA) : FnOk P w K mg base CX0 6 L.row_of.f L.row_of.fd ["pieces"] spRo := by
  have G_fits : FnOk P w K mg base CX0 3 L.fits.f L.fits.fd ["shape", "piece"] spFi := ok_fits L T hN
  have G_value_of : FnOk P w K mg base CX0 5 L.value_of.f L.value_of.fd ["piece"] spVo := ok_value_of L T hN
  obtain ⟨es, n, DS⟩ := T.dS
  refine L.row_of.F.ok sc_row_of (fun vs H Q E h => ?_) (fun cdv A' outer s H vs Q E hr h => ?_)
  · obtain ⟨q, ps, rfl, _⟩ := h
    rfl
  · obtain ⟨q, ps, rfl, ⟨xs, hq, hn, hxs⟩, ho, q1, q2⟩ := h
    have hz := sizeLine_eq
    have hlen := hxs.len
    refine ⟨_, (pss_cons (ps_if (PW.pt (pw_or (pt_not (pt_truth (pv 0) (by intro _; rfl))) (pw_or (pt_cmpR op_ne (pe_ix ix_tup (pe_ix ix_list (pv 0) pe_int (fun _ _ => rfl)) pe_int (fun _ _ => rfl)) pe_str (nomark _)) (pw_or1 (pt_cmpR (op_notIn_kd DS) (pe_ix ix_tup (pe_ix ix_list (pv 0) pe_int (fun _ _ => rfl)) pe_int (fun _ _ => rfl)) (pe_gc (v := .ref T.sA) (by rfl) ⟨_, T.gS, rfl⟩) (by rfl))))))
        (pss_one (ps_ret pe_non))
        pss_nil)
      (pss_cons (ps_set (i := 1) sc_row_of.nd rfl (.inl rfl) (pe_ix ix_tup (pe_ix ix_list (pv 0) pe_int (fun _ _ => rfl)) pe_int (fun _ _ => rfl)))
      (pss_cons (ps_set (i := 2) sc_row_of.nd rfl (.inl rfl) (pe_ix ix_kdict (pe_gc (v := .ref T.sA) (by rfl) ⟨_, T.gS, rfl⟩) (pv 1) (fun _ _ => rfl)))
      (pss_cons (ps_set (i := 3) sc_row_of.nd rfl (.inl rfl) (pe_slice sl_list (pv 0) (po_some pe_int) po_none))
      (pss_cons (ps_if (PW.pt (pw_or (pt_cmpR op_ne (pe_callB call_len_seq (by rfl) L.z_len PySem.boot_len (pa_cons (pv 3) pa_nil)) (pe_callB call_len_seq (by rfl) L.z_len PySem.boot_len (pa_cons (pv 2) pa_nil)) (nomark _)) (pw_or1 (pt_not (pt_val (pe_callB (cr_all rfl) (by rfl) L.z_all (by decide +kernel) (pa_cons (pe_lc (own := [("shape", 4), ("piece", 5)]) (g := gTup K 2 (gCons (gName 4) (gCons (gName 5) gNil))) (tt := tYes) (by rfl) sc_row_of.nd (XZt.pi_zipM (by rfl) L.z_zip (pa_cons (pv 2) (pa_cons (pv 3) pa_nil))) (blkOk_by (own := [("shape", 4), ("piece", 5)]) (N := ["pieces", "word", "shapes", "operands", "shape", "piece"]) (sc := defScope (top 37)) (by decide +kernel)) (fun _ _ _ _ _ => (pg_tup (by rfl) (pgs_cons (pg_name (i := 4) sc_row_of.nd rfl (.inl rfl)) (pgs_cons (pg_name (i := 5) sc_row_of.nd rfl (.inl rfl)) pgs_nil)))) (fun _ _ _ _ _ => pts_nil) (fun _ _ _ _ _ => (pe_call G_fits (hr.mono (by omega)) (by rfl) L.fits.g L.fits.F.kp L.fits.b .nil pass0 (pa_cons (pv 4) (pa_cons (pv 5) pa_nil))))) pa_nil)))))))
        (pss_one (ps_ret pe_non))
        pss_nil)
      (pss_cons (ps_if (pt_cmpR op_eq (pv 1) pe_str (nomark _))
        (pss_one (ps_ret (pe_tup (pa_cons (pv 1) (pa_cons (pe_call G_value_of (hr.mono (by omega)) (by rfl) L.value_of.g L.value_of.F.kp L.value_of.b .nil pass0 (pa_cons (pe_ix ix_list (pv 3) pe_int (fun _ _ => rfl)) pa_nil)) pa_nil)))))
        pss_nil)
      (pss_one (ps_ret (pe_tup (pa_cons (pv 1) (StX.pa_star (pe_lc (own := [("piece", 5)]) (g := gName 5) (tt := tYes) (by rfl) sc_row_of.nd (pi_list (pv 3)) (blkOk_by (own := [("piece", 5)]) (N := ["pieces", "word", "shapes", "operands", "shape", "piece"]) (sc := defScope (top 37)) (by decide +kernel)) (fun _ _ _ _ _ => (pg_name (i := 5) sc_row_of.nd rfl (.inl rfl))) (fun _ _ _ _ _ => pts_nil) (fun _ _ _ _ _ => (pe_ix (show IxR _ (rIxT K) from by exact ix_tup) (pv 5) pe_int (fun _ _ => rfl)))) pa_nil))))))))))), ?_⟩
    refine ⟨_, rfl, _, .inl ⟨_, SqL.of hq, rfl⟩, ?_⟩
    cases ps with
    | nil =>
      cases xs with
      | nil => exact ifT rfl (q2 rfl _ fun b o h => h)
      | cons v vs => exact hxs.elim
    | cons p r =>
      cases xs with
      | nil => exact hxs.elim
      | cons v vs =>
        obtain ⟨⟨t, rfl, ht⟩, hvs⟩ := hxs
        refine ifF rfl ⟨_, rfl, q, _, _, .ref t, rfl, rfl, SqL.of hq, at_ofN (j := 0) rfl rfl, t, _, _, .str p.v.k, rfl, rfl, SqT.of ht, rfl, rfl, _, rfl, ?_⟩
        by_cases hk : p.v.k = "word"
        · obtain ⟨x, hp⟩ := Pv.k_w hk
          have ep : p = ⟨p.at_, .w x⟩ := by rw [← hp]
          rw [ep] at ho q1 q2
          refine ifF (by rw [hk]; show (!decide (V.str "word" = V.str "word")) = false; decide +kernel) ?_
          have hx2 : p.tl[2]? = some (.str (S x)) := by show some p.v.V = _; rw [hp]; rfl
          refine ⟨_, rfl, q, _, _, .ref t, rfl, rfl, SqL.of hq, at_ofN (j := 0) rfl rfl, t, _, _, .str (S x), rfl, rfl, SqT.of ht, hx2, ?_⟩
          replace ho : rowOkW (shp x) r = true := ho
          have rf : rowF (⟨p.at_, .w x⟩ :: r) = rowFW (shp x) r := rfl
          cases hs : shp x with
          | none => rw [hs] at ho; cases ho
          | some o =>
            cases o with
            | none =>
              rw [hs] at rf
              exact ⟨S x, none, rfl, rfl, hS.no x hs, _, rfl, ifT rfl (q2 rf _ fun b o h => h)⟩
            | some zs =>
              rw [hs] at ho
              obtain ⟨u, a, en, ru, hzs⟩ := hS.ok x zs hs
              rw [hs] at rf
              replace rf : rowF (⟨p.at_, .w x⟩ :: r) = (decide (r.length = zs.length) && (zs.zip r).all fun a => fitF a.1 a.2) := rf
              rw [rf] at q1 q2
              refine ⟨S x, some u, rfl, rfl, en, _, rfl, ifF rfl ?_⟩
              refine ⟨_, rfl, q, _, _, .ref t, rfl, rfl, SqL.of hq, at_ofN (j := 0) rfl rfl, t, _, _, .str (S x), rfl, rfl, SqT.of ht, hx2, ?_⟩
              refine ⟨_, rfl, T.sA, S x, .ref a, rfl, rfl, ⟨es, n, u, DS.at_, DS.lit, en, ru⟩, ?_⟩
              refine ⟨_, rfl, _, rfl, q, _, rfl, SqL.of hq, fun Da nDa => ?_⟩
              rw [cutV1]
              have hD : upd H Da (.lst vs) Da = some (.lst vs) := upd_same
              have s1 : Same H (upd H Da (.lst vs)) := same_upd nDa
              have hvs1 := hvs.mono fun _ _ => PcR.same s1
              generalize upd H Da (.lst vs) = H1 at hD s1 hvs1 ⊢
              refine ⟨_, rfl, Da, _, rfl, .inl (SqL.of hD), _, rfl, a, _, rfl, .inr (hzs _), rfl, _, rfl, ?_⟩
              have hvl : vs.length = r.length := hvs.len
              by_cases hl : r.length = zs.length
              · refine ifF (by rw [List.length_map, hvl, hl]; show (!decide (V.int _ = V.int _)) = false; rw [decide_eq_true rfl]; rfl) ?_
                have hzl : (zs.map V.str).length = vs.length := by rw [List.length_map, hvl, hl]
                rw [decide_eq_true hl, Bool.true_and] at q1 q2
                refine ⟨_, rfl, _, rfl, a, Da, _, _, rfl, hzs _, SqL.of hD, fun D2 nD2 => ?_⟩
                refine lc_it (XZt.walk_zipM hzl) (fun i H' => Same H1 H' ∧ H' D2 = some (.lst (((List.range i).map fun i => match zs[i]?, r[i]? with
                  | some z, some p => fitF z p
                  | _, _ => false).map V.bl))) ⟨same_upd nD2, upd_same⟩ (fun i H' _ h => ⟨hzs _, SqL.of (h.1 _ _ hD)⟩) ?_ ?_
                · rintro i xv Ha Hb hi ⟨sa, ea⟩ ⟨T0, x1, y1, rfl, nT, rfl, hx1, hy1⟩
                  obtain ⟨p1, hp1, t1, rfl, ht1⟩ := hvs1.get hy1
                  replace hx1 : (zs.map V.str)[i]? = some x1 := hx1
                  rw [List.getElem?_map] at hx1
                  cases hzi : zs[i]? with
                  | none => rw [hzi] at hx1; cases hx1
                  | some z =>
                    rw [hzi] at hx1
                    cases hx1
                    have hDT : T0 ≠ D2 := fun z => by rw [z, ea] at nT; cases nT
                    have sb : Same H1 (upd Ha T0 (.tup [.str z, .ref t1])) := sa.trans (same_upd nT)
                    refine ⟨T0, _, rfl, SqT.of upd_same, rfl, _, _, rfl, _, _, rfl, rfl, ?_⟩
                    refine ⟨rfl, _, rfl, _, rfl, z, t1, p1, rfl, sb _ _ ht1, fun hzv => valOk_of (row_val ho (z := z) (p := p1) (List.mem_of_getElem? (i := i) (by rw [List.getElem?_zip_eq_some]; exact ⟨hzi, hp1⟩)) hzv), _, (by rw [upd_ne (Ne.symm hDT)]; exact ea), ?_, My.Same.put sb nD2, ?_⟩
                    · rw [List.length_map, List.length_map, List.length_range]
                      rw [List.length_map] at hi
                      rw [List.length_cons] at hn
                      omega
                    · rw [upd_same, List.range_succ, List.map_append, List.map_append]
                      show some (HO.lst (_ ++ [V.bl (fitF z p1)])) = some (HO.lst (_ ++ [V.bl (match zs[i]?, r[i]? with
                        | some z, some p => fitF z p
                        | _, _ => false)]))
                      rw [hzi, hp1]
                · rintro H2 ⟨s2, e2⟩
                  have s02 := s1.trans s2
                  rw [List.length_map] at e2
                  refine ⟨D2, _, rfl, SqL.of e2, ?_⟩
                  have eall : ((List.range zs.length).map fun i => match zs[i]?, r[i]? with
                    | some z, some p => fitF z p
                    | _, _ => false).all id = (zs.zip r).all fun a => fitF a.1 a.2 := by
                    rw [← fit_all hl.symm, List.all_map]
                    rfl
                  rw [eall]
                  have hD2 := s2 _ _ hD
                  have hvs2 := hvs1.mono fun _ _ => PcR.same s2
                  refine ⟨_, rfl, ?_⟩
                  cases ha : (zs.zip r).all fun a => fitF a.1 a.2 with
                  | false => exact ifT rfl (q2 ha _ s02)
                  | true =>
                    refine ifF rfl ?_
                    have ec : (("const" : Str)) = S [99, 111, 110, 115, 116] := by decide +kernel
                    refine ⟨_, rfl, rfl, _, rfl, ite2 (fun e => ?_) (fun e => ?_)⟩
                    · have hxc : x = [99, 111, 110, 115, 116] := by
                        have := V.str.inj (of_decide_eq_true e)
                        rw [ec] at this
                        exact S_inj this
                      have hzs1 : zs = [("value" : Str)] := by
                        rw [hxc] at hs
                        have h2 : shp [99, 111, 110, 115, 116] = some (some [("value" : Str)]) := by decide +kernel
                        rw [h2] at hs
                        injection hs with hs
                        injection hs with hs
                        exact hs.symm
                      rw [hzs1] at ha hl
                      obtain ⟨p1, rfl⟩ : ∃ p1, r = [p1] := by
                        cases r with
                        | nil => cases hl
                        | cons p1 r => cases r with
                          | nil => exact ⟨p1, rfl⟩
                          | cons _ _ => simp at hl
                      cases vs with
                      | nil => exact hvs2.elim
                      | cons v1 vs =>
                        obtain ⟨⟨t1, rfl, ht1⟩, _⟩ := hvs2
                        have hf1 : valF p1 = true := by
                          have := List.all_eq_true.mp ha ("value", p1) (by simp)
                          have h3 : fitF "value" p1 = true := this
                          unfold fitF at h3
                          rw [if_pos rfl] at h3
                          exact h3
                        refine ⟨_, rfl, _, rfl, Da, _, _, .ref t1, rfl, rfl, SqL.of hD2, at_ofN (j := 0) rfl rfl, t1, p1, rfl, ht1, valOk_of (row_val ho (z := "value") (p := p1) (by rw [hzs1]; exact List.mem_cons_self) rfl), hf1, fun H3 v s3 => ?_⟩
                        exact ⟨(by show 2 ≤ sizeLine; decide), fun p2 n2 => q1 (by rw [hzs1]; exact ha) _ p2 ((s02.trans s3).trans (same_upd n2))⟩
                    · refine ⟨_, rfl, _, rfl, Da, rfl, ⟨_, SqL.of hD2⟩, fun D3 nD3 => lc_list (K := K) (a := Da) (xs := vs) (fun i H' => Same H2 H' ∧ ∃ acc, H' D3 = some (.lst acc) ∧ acc.length = i) ⟨same_upd nD3, [], upd_same, rfl⟩ (fun i H' _ h => SqL.of (h.1 _ _ hD2)) ?_ ?_⟩
                      · rintro i v Ha hv ⟨sa, acc, ea, la⟩
                        obtain ⟨p1, hp1, t1, rfl, ht1⟩ := hvs2.get hv
                        have hi : i < vs.length := (List.getElem?_eq_some_iff.mp hv).1
                        refine ⟨rfl, _, rfl, t1, _, _, p1.v.V, rfl, rfl, SqT.of (sa _ _ ht1), rfl, acc, ea, ?_, My.Same.put sa nD3, _, upd_same, ?_⟩
                        · rw [List.length_cons] at hn
                          omega
                        · rw [List.length_append, la]
                          rfl
                      · rintro H3 ⟨s3, acc, e3, la⟩
                        refine ⟨D3, acc, rfl, .inr (SqL.of e3), ?_, fun p2 n2 => q1 ha _ p2 ((s02.trans s3).trans (same_upd n2))⟩
                        rw [List.length_cons] at hn
                        show (_ :: (acc ++ [])).length ≤ _
                        rw [List.length_cons, List.append_nil]
                        omega
              · refine ifT ?_ (q2 (by rw [decide_eq_false hl]; rfl) _ s1)
                rw [List.length_map, hvl]
                show (!decide (V.int _ = V.int _)) = true
                rw [decide_eq_false fun z => hl (by injection z with z; omega)]
                rfl
        · have rf : rowF (p :: r) = false := by
            obtain ⟨at_, v⟩ := p
            cases v with
            | w x => exact absurd rfl hk
            | _ => rfl
          exact ifT (by show (!decide (V.str p.v.k = V.str "word")) = true; rw [decide_eq_false fun z => hk (V.str.inj z)]; rfl) (q2 rf _ fun b o h => h)
end
end My
/-! ### chunks, read_line -/
namespace My
open PySem L2 SX XT XS XE
open C8 (pss_cut tCut cutS_slice pe_gc)
abbrev chF (v1 v2 : V) (r sc : Addr) : List (Str × V) := [("number", v1), ("wanted", v2), ("rows", .ref r), ("scopes", .ref sc)]
theorem sqt_ins {K : PySem.W.Frag} {H H' : Hp} {x r dx C : Addr} {fs : List (Str × V)} {us : List V} (k : Keep x H H') (hx : H x = some (.ins C dx fs)) (h : SqT K H r us) : SqT K H' r us := by
  rcases h with (h | ⟨ob, h⟩) | h
  · exact .inl (.inl (k _ _ h fun z => by rw [z, hx] at h; cases h))
  · exact .inl (.inr ⟨ob, k _ _ h fun z => by rw [z, hx] at h; cases h⟩)
  · exact .inr h
section
variable {P : Program} {w : World} {K : PySem.W.Frag} {mg : Str → Option Value} {base : Heap} {A : Ads}
def spCk (K : PySem.W.Frag) (A : Ads) : Sp := fun vs H Q _ => ∃ x dx v1 v2 l us e, vs = [.ref x, v1, v2, .ref l, .ref e] ∧ H x = some (.ins A.Chunk dx []) ∧ H l = some (.lst us) ∧ SqT K H e [] ∧ ∀ H' r sc, Keep x H H' → H' x = some (.ins A.Chunk dx (chF v1 v2 r sc)) → H r = none → H' r = some (.lst us) → Q .non H'
theorem ok_Chunk_init (L : Lib P K mg A) : FnOk P w K mg base CX0 1 L.Chunk_init.f L.Chunk_init.fd ["self", "number", "wanted", "rows", "scopes"] (spCk K A) := by
  refine L.Chunk_init.F.ok sc_Chunk_init (fun vs H Q E h => ?_) (fun cdv A' outer s H vs Q E hr h => ?_)
  · obtain ⟨x, dx, v1, v2, l, us, e, rfl, _⟩ := h
    rfl
  · obtain ⟨x, dx, v1, v2, l, us, e, rfl, hx, hl, he, q⟩ := h
    refine ⟨_, (pss_cons (ps_fld (pv 0) (pv 1) rfl)
      (pss_cons (ps_fld (pv 0) (pv 2) rfl)
      (pss_cons (ps_fld (pv 0) (pe_callTy call_list_of (by rfl) L.z_list (by decide +kernel) (pa_cons (pv 3) pa_nil)) rfl)
      (pss_one (ps_fld (pv 0) (pe_callTy call_list_of (by rfl) L.z_list (by decide +kernel) (pa_cons (pv 4) pa_nil)) rfl))))), ?_⟩
    refine ⟨_, rfl, _, rfl, x, A.Chunk, dx, _, rfl, hx, L.c_Chunk.cl, L.n_Chunk_number, (by show 0 < 1000; decide), ?_⟩
    refine ⟨_, rfl, _, rfl, x, A.Chunk, dx, _, rfl, upd_same, L.c_Chunk.cl, L.n_Chunk_wanted, (by show 1 < 1000; decide), ?_⟩
    have nlx : l ≠ x := fun z => by rw [z, hx] at hl; cases hl
    refine ⟨_, rfl, l, us, rfl, .inl (SqL.of (by rw [upd_ne nlx, upd_ne nlx]; exact hl)), fun r nr => ?_⟩
    have nrx : r ≠ x := fun z => by rw [z, upd_same] at nr; cases nr
    refine ⟨_, rfl, x, A.Chunk, dx, _, rfl, (by rw [upd_ne (Ne.symm nrx)]; exact upd_same), L.c_Chunk.cl, L.n_Chunk_rows, (by show 2 < 1000; decide), ?_⟩
    have nr0 : H r = none := by rw [upd_ne nrx, upd_ne nrx] at nr; exact nr
    have k2 : Keep x H (upd (upd (upd (upd H x (.ins A.Chunk dx (putF "number" v1 []))) x (.ins A.Chunk dx (putF "wanted" v2 (putF "number" v1 [])))) r (.lst us)) x (.ins A.Chunk dx (putF "rows" (V.ref r) (putF "wanted" v2 (putF "number" v1 []))))) := fun b u z n => by
      rw [upd_ne n, upd_ne (ne_of_none z nr0), upd_ne n, upd_ne n]; exact z
    have hr2 : (upd (upd (upd (upd H x (.ins A.Chunk dx (putF "number" v1 []))) x (.ins A.Chunk dx (putF "wanted" v2 (putF "number" v1 [])))) r (.lst us)) x (.ins A.Chunk dx (putF "rows" (V.ref r) (putF "wanted" v2 (putF "number" v1 []))))) r = some (.lst us) := by
      rw [upd_ne nrx]; exact upd_same
    have hx2 : (upd (upd (upd (upd H x (.ins A.Chunk dx (putF "number" v1 []))) x (.ins A.Chunk dx (putF "wanted" v2 (putF "number" v1 [])))) r (.lst us)) x (.ins A.Chunk dx (putF "rows" (V.ref r) (putF "wanted" v2 (putF "number" v1 []))))) x = some (.ins A.Chunk dx (putF "rows" (V.ref r) (putF "wanted" v2 (putF "number" v1 [])))) := upd_same
    generalize upd (upd (upd (upd H x _) x _) r _) x _ = H2 at k2 hr2 hx2 ⊢
    refine ⟨_, rfl, e, [], rfl, .inr (sqt_ins k2 hx he), fun r2 nr2 => ?_⟩
    have nrx2 : x ≠ r2 := ne_of_none hx2 nr2
    refine ⟨_, rfl, x, A.Chunk, dx, _, rfl, (by rw [upd_ne nrx2]; exact hx2), L.c_Chunk.cl, L.n_Chunk_scopes, (by show 3 < 1000; decide), ?_⟩
    exact q _ r r2 (fun b u z n => by rw [upd_ne n, upd_ne (ne_of_none (k2 _ _ z n) nr2)]; exact k2 _ _ z n) upd_same nr0 (by rw [upd_ne nrx, upd_ne (ne_of_none hr2 nr2)]; exact hr2)
end
/-- all but the list of chunks is as it was -/
def But (cs : Addr) (H H' : Hp) : Prop := ∀ b o, b ≠ cs → H b = some o → H' b = some o
theorem But.same {cs : Addr} {H H1 H2 : Hp} (b : But cs H H1) (s : Same H1 H2) : But cs H H2 := fun x o n h => s _ _ (b x o n h)
theorem But.line {cs q : Addr} {H H' : Hp} {ps : List Pc} {us : List V} (b : But cs H H') (hc : H cs = some (.lst us)) (n : q ≠ cs) (h : LineR H q ps) : LineR H' q ps := by
  obtain ⟨xs, e, m, h⟩ := h
  refine ⟨xs, b _ _ n e, m, h.mono fun u p hp => ?_⟩
  obtain ⟨t, e, h⟩ := hp
  exact ⟨t, e, b _ _ (fun z => by rw [z, hc] at h; cases h) h⟩
inductive Rl where
  | bad
  | err (at_ : Nat) (m : Str)
  | ok (st : Option Nat)
def noLine : Str := "this is no line of code"
def noFun : Str := "no function has begun"
def noIndex : Str := "this is not the index of the instruction"
def numd : List Pc → Option Int
  | ⟨_, .n i⟩ :: ⟨_, .c⟩ :: _ => some i
  | _ => none
def bodyF (ps : List Pc) : List Pc := if (numd ps).isSome = true then ps.drop 2 else ps
def readTl : Option Nat → Nat → Option Int → Rl
  | none, a, _ => .err a noFun
  | some k, _, none => .ok (some (k + 1))
  | some k, a, some i => if i = (k : Int) then .ok (some (k + 1)) else .err a noIndex
def readLn (st : Option Nat) (a : Nat) (ps : List Pc) : Rl :=
  if begF ps = true then .ok (some 0)
  else if rowOk (bodyF ps) = true then
    if rowF (bodyF ps) = true then readTl st a (numd ps)
    else .err a noLine
  else .bad
/-- the chunks at cs: none, or the last one has k rows -/
def ChS (H2 H : Hp) (A : Ads) (cs : Addr) (m : Nat) : Option Nat → Prop
  | none => H cs = some (.lst [])
  | some k => ∃ us c dx v1 v2 r sc rs, H cs = some (.lst (us ++ [.ref c])) ∧ H c = some (.ins A.Chunk dx (chF v1 v2 r sc)) ∧ H r = some (.lst rs) ∧ rs.length = k ∧ r ≠ cs ∧ H2 r = none ∧ us.length ≤ m ∧ k ≤ m
theorem ChS.same {H2 H H' : Hp} {A : Ads} {cs : Addr} {m : Nat} (s : Same H H') : ∀ {st : Option Nat}, ChS H2 H A cs m st → ChS H2 H' A cs m st
  | none, h => s _ _ h
  | some k, ⟨us, c, dx, v1, v2, r, sc, rs, a1, a2, a3, a4⟩ => ⟨us, c, dx, v1, v2, r, sc, rs, s _ _ a1, s _ _ a2, s _ _ a3, a4⟩
theorem ChS.lst {H2 H : Hp} {A : Ads} {cs : Addr} {m : Nat} : ∀ {st : Option Nat}, ChS H2 H A cs m st → ∃ us, H cs = some (.lst us) ∧ us.length ≤ m + 1 ∧ (st = none ↔ us = [])
  | none, h => ⟨[], h, Nat.zero_le _, Iff.intro (fun _ => rfl) fun _ => rfl⟩
  | some k, ⟨us, c, dx, v1, v2, r, sc, rs, a1, a2, a3, a4, a5, a6, a7, _⟩ => ⟨us ++ [.ref c], a1, by rw [List.length_append, List.length_singleton]; omega, Iff.intro (fun h => by cases h) fun h => by simp at h⟩
theorem kinds2 : ∀ {ps : List Pc}, kindsF (ps.take 2) = [("number" : Str), "colon"] ↔ (numd ps).isSome = true := by
  intro ps
  constructor
  · intro h
    match ps, h with
    | ⟨a, v⟩ :: ⟨b, u⟩ :: r, h =>
      have h' : [v.k, u.k] = [("number" : Str), "colon"] := h
      injection h' with h1 h2
      injection h2 with h2 _
      obtain ⟨i, rfl⟩ := Pv.k_n h1
      have := Pv.k_c h2
      subst this
      rfl
    | [], h => exact absurd (congrArg List.length h) (by decide)
    | [_], h => exact absurd (congrArg List.length h) (by simp [kindsF])
  · intro h
    unfold numd at h
    split at h
    · rfl
    · cases h
theorem numd_head {ps : List Pc} {i : Int} (h : numd ps = some i) : ∃ a r, ps = ⟨a, .n i⟩ :: r := by
  unfold numd at h
  split at h
  · injection h with h
    subst h
    exact ⟨_, _, rfl⟩
  · cases h
end My
/-! ### read_line -/
namespace My
open PySem L2 SX XT XS XE
open C8 (pss_cut tCut cutS_slice pe_gc)
theorem cutV2 (xs : List V) : cutV xs (some 2) none = xs.drop 2 := by
  have e1 : HT.sIx xs.length 0 (some 2) = min 2 xs.length := by
    rw [show (2 : Int) = ((2 : Nat) : Int) from rfl, HT.sIx_nat]
  have e2 : HT.sIx xs.length xs.length none = xs.length := rfl
  unfold cutV
  rw [e1, e2]
  by_cases h : 2 ≤ xs.length
  · rw [Nat.min_eq_left h, List.take_of_length_le (by rw [List.length_drop]; omega)]
  · rw [Nat.min_eq_right (by omega), List.drop_eq_nil_of_le (Nat.le_refl _), List.drop_eq_nil_of_le (by omega), List.take_nil]
theorem cutV02 (xs : List V) : cutV xs none (some 2) = xs.take 2 := by
  have e1 : HT.sIx xs.length xs.length (some 2) = min 2 xs.length := by
    rw [show (2 : Int) = ((2 : Nat) : Int) from rfl, HT.sIx_nat]
  have e2 : HT.sIx xs.length 0 none = 0 := rfl
  unfold cutV
  rw [e1, e2, List.drop_zero, Nat.sub_zero, List.take_eq_take_iff]
  omega
theorem All2.take {α β : Type} {R : α → β → Prop} : ∀ {as : List α} {bs : List β} (n : Nat), All2 R as bs → All2 R (as.take n) (bs.take n)
  | _, _, 0, _ => trivial
  | [], [], _ + 1, _ => trivial
  | _ :: _, _ :: _, n + 1, ⟨x, y⟩ => ⟨x, All2.take n y⟩
  | [], _ :: _, _ + 1, z => z.elim
  | _ :: _, [], _ + 1, z => z.elim
theorem All2.drop {α β : Type} {R : α → β → Prop} : ∀ {as : List α} {bs : List β} (n : Nat), All2 R as bs → All2 R (as.drop n) (bs.drop n)
  | _, _, 0, h => h
  | [], [], _ + 1, _ => trivial
  | _ :: _, _ :: _, n + 1, ⟨_, y⟩ => All2.drop n y
  | [], _ :: _, _ + 1, z => z.elim
  | _ :: _, [], _ + 1, z => z.elim
theorem begF_shape {ps : List Pc} (h : begF ps = true) : ∃ a x p1 p2, ps = [⟨a, .w x⟩, p1, p2] := by
  unfold begF at h
  split at h
  · exact ⟨_, _, _, _, rfl⟩
  · cases h
section
variable {P : Program} {w : World} {K : PySem.W.Frag} {mg : Str → Option Value} {base : Heap} {A : Ads}
def spRl (A : Ads) : Sp := fun vs H Q E => ∃ (q cs : Addr) (p : Pc) (r : List Pc) (H2 : Hp) (m : Nat) (st : Option Nat), vs = [.ref q, .ref cs] ∧ LineR H2 q (p :: r) ∧ q ≠ cs ∧ H2 cs = some (.lst []) ∧ But cs H2 H ∧ ChS H2 H A cs m st ∧ m ≤ 1000001 ∧ p.at_ ≤ 1000000 ∧ readLn st p.at_ (p :: r) ≠ .bad ∧
  (∀ st', readLn st p.at_ (p :: r) = .ok st' → ∀ H', But cs H2 H' → ChS H2 H' A cs (m + 1) st' → Q .non H') ∧ (∀ a z, readLn st p.at_ (p :: r) = .err a z → ∀ H', But cs H2 H' → ErrC E A H' a z)
theorem ok_read_line (L : Lib P K mg A) (T : Tabs K w mg) (hN : NoWords K T.wA) (hS : Shp K T.sA) : FnOk P w K mg base (L2.CX P w) 7 L.read_line.f L.read_line.fd ["line", "chunks"] (spRl A) := by
  have G_kinds_in : FnOk P w K mg base CX0 1 L.kinds_in.f L.kinds_in.fd ["pieces"] spKi := ok_kinds_in L
  have G_begins_function : FnOk P w K mg base CX0 2 L.begins_function.f L.begins_function.fd ["line"] spBf := ok_begins_function L
  have G_row_of : FnOk P w K mg base CX0 6 L.row_of.f L.row_of.fd ["pieces"] spRo := ok_row_of L T hN hS
  have G_Chunk_init : FnOk P w K mg base CX0 1 L.Chunk_init.f L.Chunk_init.fd ["self", "number", "wanted", "rows", "scopes"] (spCk K A) := ok_Chunk_init L
  refine L.read_line.F.okX (k := 6) sc_read_line (fun vs H Q E h => ?_) (fun cdv A' outer s H vs Q E hr h => ?_)
  · obtain ⟨q, cs, p, r, H2, m, st, rfl, _⟩ := h
    rfl
  · obtain ⟨q, cs, p, r, H2, m, st, rfl, hl, nq, hcs, hb, hc, hm, hat, nb, q1, q2⟩ := h
    have hz := sizeLine_eq
    refine ⟨_, (pss_cons (ps_if (pt_val (pe_call G_begins_function (hr.mono (by omega)) (by rfl) L.begins_function.g L.begins_function.F.kp L.begins_function.b .nil pass0 (pa_cons (pv 0) pa_nil)))
        (pss_cons (ps_expr (pe_bm PySem.F.plainAttrs_list PySem.F.slot_list_append PySem.F.type_list_append mt_append (pv 1) (pa_cons (pe_make L.Chunk_init.m G_Chunk_init (hr.mono (by omega)) (by rfl) L.c_Chunk.g L.Chunk_init.b L.Chunk_init.vd pass0 (pa_cons (pe_ix ix_tup (pe_ix ix_list (pv 0) pe_int (fun _ _ => rfl)) pe_int (fun _ _ => rfl)) (pa_cons (pe_ix ix_tup (pe_ix ix_list (pv 0) pe_int (fun _ _ => rfl)) pe_int (fun _ _ => rfl)) (pa_cons (pe_lst pa_nil) pa_nil)))) pa_nil)))
      (pss_one ps_retN))
        pss_nil)
      (pss_cons (ps_set (i := 2) sc_read_line.nd rfl (.inl rfl) (pe_cmpR (op_eqD (units64 hr)) (pe_call G_kinds_in (hr.mono (by omega)) (by rfl) L.kinds_in.g L.kinds_in.F.kp L.kinds_in.b .nil pass0 (pa_cons (pe_slice sl_list (pv 0) po_none (po_some pe_int)) pa_nil)) (pe_lst (pa_cons pe_str (pa_cons pe_str pa_nil))) (nomark _)))
      (pss_cons (ps_set (i := 3) sc_read_line.nd rfl (.inl rfl) (pe_call G_row_of (hr.mono (by omega)) (by rfl) L.row_of.g L.row_of.F.kp L.row_of.b .nil pass0 (pa_cons (pe_ifExp (pt_val (pv 2)) (pe_slice sl_list (pv 0) (po_some pe_int) po_none) (pv 0)) pa_nil)))
      (pss_cons (ps_set (i := 4) sc_read_line.nd rfl (.inl rfl) (pe_ix ix_tup (pe_ix ix_list (pv 0) pe_int (fun _ _ => rfl)) pe_int (fun _ _ => rfl)))
      (pss_cons (ps_if (pt_cmpR op_isN (pv 3) pe_non (nomark _))
        (pss_one (ps_raise2I rfl L.x_InvalidCode.T (L.x_InvalidCode.F _ _) (hr.mono (by omega)) (takes_of rfl rfl rfl rfl) L.x_InvalidCode.b (by rfl) L.x_InvalidCode.g (pa_cons (pv 4) (pa_cons pe_str pa_nil))))
        pss_nil)
      (pss_cons (ps_if (pt_not (pt_truth (pv 1) (by intro _; rfl)))
        (pss_one (ps_raise2I rfl L.x_InvalidCode.T (L.x_InvalidCode.F _ _) (hr.mono (by omega)) (takes_of rfl rfl rfl rfl) L.x_InvalidCode.b (by rfl) L.x_InvalidCode.g (pa_cons (pv 4) (pa_cons pe_str pa_nil))))
        pss_nil)
      (pss_cons (ps_if (PW.pt (pw_and (pt_val (pv 2)) (pw_and1 (pt_cmpR op_ne (pe_ix ix_tup (pe_ix ix_list (pv 0) pe_int (fun _ _ => rfl)) pe_int (fun _ _ => rfl)) (pe_callB call_len_seq (by rfl) L.z_len PySem.boot_len (pa_cons (pe_fld (pe_ix ix_list (pv 1) (pe_un un_neg pe_int) (fun _ _ => rfl)) rfl) pa_nil)) (nomark _)))))
        (pss_one (ps_raise2I rfl L.x_InvalidCode.T (L.x_InvalidCode.F _ _) (hr.mono (by omega)) (takes_of rfl rfl rfl rfl) L.x_InvalidCode.b (by rfl) L.x_InvalidCode.g (pa_cons (pv 4) (pa_cons pe_str pa_nil))))
        pss_nil)
      (pss_one (ps_expr (pe_bm PySem.F.plainAttrs_list PySem.F.slot_list_append PySem.F.type_list_append mt_append (pe_fld (pe_ix ix_list (pv 1) (pe_un un_neg pe_int) (fun _ _ => rfl)) rfl) (pa_cons (pv 3) pa_nil))))))))))), ?_⟩
    refine ⟨_, rfl, q, p :: r, rfl, hb.line hcs nq hl, fun H1 s1 => ?_⟩
    have b1 := hb.same s1
    have c1 := hc.same s1
    refine ⟨_, rfl, ite2 (fun e => ?_) (fun e => ?_)⟩
    · have er : readLn st p.at_ (p :: r) = .ok (some 0) := by unfold readLn; rw [if_pos e]
      obtain ⟨xs, hq, _, hxs⟩ := b1.line hcs nq hl
      obtain ⟨a0, x, p1, p2, eps⟩ := begF_shape e
      rw [eps] at hxs
      obtain ⟨us, hu, hul, _⟩ := c1.lst
      obtain ⟨_ | ⟨v0, _ | ⟨v1, _ | ⟨v2, _ | _⟩⟩⟩, hq, hxs⟩ : ∃ xs : List V, H1 q = some (.lst xs) ∧ All2 (PcR H1) xs [⟨a0, .w x⟩, p1, p2] := ⟨xs, hq, hxs⟩
      · exact hxs.elim
      · exact hxs.2.elim
      · exact hxs.2.2.elim
      · obtain ⟨⟨t0, rfl, h0⟩, ⟨t1, rfl, h1⟩, ⟨t2, rfl, h2⟩, _⟩ := hxs
        refine ⟨_, rfl, .inl ⟨rfl, _, SqL.of hu⟩, ?_⟩
        refine ⟨_, rfl, q, _, _, .ref t1, rfl, rfl, SqL.of hq, rfl, t1, _, _, p1.v.V, rfl, rfl, SqT.of h1, rfl, ?_⟩
        refine ⟨_, rfl, q, _, _, .ref t2, rfl, rfl, SqL.of hq, rfl, t2, _, _, p2.v.V, rfl, rfl, SqT.of h2, rfl, ?_⟩
        refine ⟨Nat.zero_le _, fun l nl => ?_⟩
        intro c d nc nd ncd
        have all : ∀ b o, H1 b = some o → (upd (upd (upd H1 l (.lst [])) d (.own c)) c (.ins A.Chunk d [])) b = some o := fun b o h => by
          rw [upd_ne (ne_of_none (same_upd nl _ _ h) nc), upd_ne (ne_of_none (same_upd nl _ _ h) nd), upd_ne (ne_of_none h nl)]
          exact h
        refine ⟨c, d, _, _, l, [], L.Chunk_init.e, rfl, upd_same, (by rw [upd_ne (ne_of_none upd_same nc), upd_ne (ne_of_none upd_same nd)]; exact upd_same), L.Chunk_init.se _, fun H3 rr sc k3 hc3 nrr hrr => ⟨rfl, ?_⟩⟩
        have s3 : Same H1 H3 := (same_upd nl).trans (My.Same.made' nc nd k3)
        have hu3 := s3 _ _ hu
        have ncs : c ≠ cs := fun z => by rw [z, hu3] at hc3; cases hc3
        have nrc : rr ≠ cs := fun z => by rw [z, all _ _ hu] at nrr; cases nrr
        refine ⟨cs, _, _, rfl, rfl, hu3, (by omega), ?_⟩
        refine q1 _ er _ (fun b o n h => by rw [upd_ne n]; exact s3 _ _ (b1 b o n h)) ⟨us, c, d, _, _, rr, sc, [], upd_same, (by rw [upd_ne ncs]; exact hc3), (by rw [upd_ne nrc]; exact hrr), rfl, nrc, ?_, by omega, Nat.zero_le _⟩
        cases h : H2 rr with
        | none => rfl
        | some o =>
          rw [all _ _ (b1 rr o nrc h)] at nrr
          cases nrr
      · exact hxs.2.2.2.elim
    · -- numbered = kinds_in(line[:2]) == ['number', 'colon']
      obtain ⟨xs, hq, hn, hxs⟩ := b1.line hcs nq hl
      refine ⟨_, rfl, _, rfl, q, _, rfl, SqL.of hq, fun l nl => ?_⟩
      rw [cutV02]
      have s2 : Same H1 (upd H1 l (.lst (xs.take 2))) := same_upd nl
      have hl2 : LineR (upd H1 l (.lst (xs.take 2))) l ((p :: r).take 2) := ⟨_, upd_same, by rw [List.length_take]; omega, (hxs.take 2).mono fun _ _ => PcR.same s2⟩
      refine ⟨l, _, rfl, hl2, fun H3 kk s3 nkk ekk => ?_⟩
      have s13 := s2.trans s3
      refine ⟨(by show 2 ≤ sizeLine; decide), fun D nD => ?_⟩
      have ek4 := same_upd (o := .lst [.str "number", .str "colon"]) nD _ _ ekk
      have s14 : Same H1 (upd H3 D (.lst [.str "number", .str "colon"])) := s13.trans (same_upd nD)
      have eD : upd H3 D (.lst [.str "number", .str "colon"]) D = some (.lst ([("number" : Str), "colon"].map V.str)) := upd_same
      generalize upd H3 D _ = H4 at ek4 s14 eD ⊢
      refine ⟨_, _, dp_lst ek4, dp_lst eD, shaped_strs fun k hk => ?_, shaped_strs (by decide +kernel), ?_⟩
      · obtain ⟨p, _, rfl⟩ := List.mem_map.mp hk
        exact k_ok p.v
      rw [eqv_strs]
      have b4 := b1.same s14
      have c4 := c1.same s14
      have hq4 := s14 _ _ hq
      have hxs4 := hxs.mono fun _ _ => PcR.same s14
      generalize hnb : decide (kindsF ((p :: r).take 2) = [("number" : Str), "colon"]) = nb'
      have enb : nb' = (numd (p :: r)).isSome := by
        rw [← hnb, Bool.eq_iff_iff, decide_eq_true_eq]
        exact kinds2
      have er0 : readLn st p.at_ (p :: r) = if rowOk (bodyF (p :: r)) = true then
          if rowF (bodyF (p :: r)) = true then readTl st p.at_ (numd (p :: r)) else .err p.at_ noLine
        else .bad := by
        unfold readLn
        rw [if_neg e]
      have hro : rowOk (bodyF (p :: r)) = true := by
        by_cases z : rowOk (bodyF (p :: r)) = true
        · exact z
        · rw [if_neg z] at er0
          exact absurd er0 nb
      rw [if_pos hro] at er0
      cases xs with
      | nil => exact hxs4.elim
      | cons v0 vs =>
      have hbd : ∀ (b : Bool), nb' = b → bodyF (p :: r) = if b = true then (p :: r).drop 2 else p :: r := fun b z => by
        unfold bodyF
        rw [← enb, z]
      have h0all := hxs4.1
      refine ⟨_, rfl, _, rfl, ite2 (fun hn1 => ?_) (fun hn1 => ?_)⟩
      · refine ⟨_, rfl, _, rfl, q, _, rfl, SqL.of hq4, fun l2 nl2 => ?_⟩
        rw [cutV2]
        have s5 : Same H4 (upd H4 l2 (.lst ((v0 :: vs).drop 2))) := same_upd nl2
        have hbody : LineR (upd H4 l2 (.lst ((v0 :: vs).drop 2))) l2 (bodyF (p :: r)) := by
          rw [hbd true hn1, if_pos rfl]
          exact ⟨_, upd_same, by rw [List.length_drop]; omega, (hxs4.drop 2).mono fun _ _ => PcR.same s5⟩
        generalize upd H4 l2 _ = H5 at s5 hbody ⊢
        generalize l2 = q' at hbody ⊢
        refine ⟨q', _, rfl, hbody, hro, fun hrf H6 t s6 => ?_, fun hrf H6 s6 => ?_⟩
        · rw [if_pos hrf] at er0
          have s46 : Same H4 H6 := s5.trans s6
          have b6 := b4.same s46
          have c6 := c4.same s46
          have hq6 := s46 _ _ hq4
          obtain ⟨t0, rfl, ht0⟩ := h0all
          have ht6 := s46 _ _ ht0
          refine ⟨_, rfl, q, _, _, .ref t0, rfl, rfl, SqL.of hq6, at_ofN (j := 0) rfl rfl, t0, _, _, .int (p.at_ : Int), rfl, rfl, SqT.of ht6, rfl, ?_⟩
          refine ⟨_, rfl, rfl, _, rfl, ifF rfl ?_⟩
          cases st with
          | none => exact ⟨_, rfl, _, .inl ⟨_, SqL.of c6, rfl⟩, ifT rfl ⟨_, rfl, made2I (log_at hat) (by decide) fun d hd => q2 _ _ er0 _ b6 d hd⟩⟩
          | some k =>
            obtain ⟨us, c, dx, w1, w2, rr, sc, rs, hu6, hc6, hr6, hk, nrc, nr2, ul, kl⟩ := c6
            have ncs : c ≠ cs := fun z => by rw [z, hu6] at hc6; cases hc6
            have ncr : c ≠ rr := fun z => by rw [z, hr6] at hc6; cases hc6
            have app : ∀ v : V, readLn (some k) p.at_ (p :: r) = .ok (some (k + 1)) → Q .non (upd H6 rr (.lst (rs ++ [v]))) := fun v er => by
              refine q1 _ er _ (fun b o n h => ?_) ⟨us, c, dx, w1, w2, rr, sc, rs ++ [v], (by rw [upd_ne (Ne.symm nrc)]; exact hu6), (by rw [upd_ne ncr]; exact hc6), upd_same, by rw [List.length_append, List.length_singleton, hk], nrc, nr2, by omega, by omega⟩
              rw [upd_ne (fun z => by rw [z, nr2] at h; cases h)]
              exact b6 b o n h
            refine ⟨_, rfl, _, .inl ⟨_, SqL.of hu6, rfl⟩, ifF (by cases us <;> rfl) ?_⟩
            cases hnd : numd (p :: r) with
            | none =>
              have hf : nb' = false := by rw [enb, hnd]; rfl
              rw [hnd] at er0
              refine ⟨_, rfl, _, rfl, ifF hf (ifF rfl ?_)⟩
              refine ⟨_, rfl, _, rfl, cs, _, _, .ref c, rfl, rfl, SqL.of hu6, atI_last _ _, c, A.Chunk, dx, _, .ref rr, rfl, hc6, L.c_Chunk.cl, L.n_Chunk_rows, (by rfl), .inl ⟨rfl, _, SqL.of hr6⟩, _, rfl, rr, _, _, rfl, rfl, hr6, (by omega), ?_⟩
              exact app _ er0
            | some i =>
              have hf : nb' = true := by rw [enb, hnd]; rfl
              rw [hnd] at er0
              obtain ⟨a1, r1, ep⟩ := numd_head hnd
              have hx2 : p.tl[2]? = some (.int i) := by
                injection ep with ep _
                rw [ep]
                rfl
              refine ⟨_, rfl, _, rfl, ifT hf ?_⟩
              refine ⟨_, rfl, q, _, _, .ref t0, rfl, rfl, SqL.of hq6, at_ofN (j := 0) rfl rfl, t0, _, _, .int i, rfl, rfl, SqT.of ht6, hx2, ?_⟩
              refine ⟨_, rfl, _, rfl, cs, _, _, .ref c, rfl, rfl, SqL.of hu6, atI_last _ _, c, A.Chunk, dx, _, .ref rr, rfl, hc6, L.c_Chunk.cl, L.n_Chunk_rows, (by rfl), rr, rs, rfl, .inl (SqL.of hr6), rfl, _, rfl, ?_⟩
              by_cases hik : i = (k : Int)
              · have er1 : readLn (some k) p.at_ (p :: r) = .ok (some (k + 1)) := by rw [er0]; exact if_pos hik
                refine ifF (by rw [hik, hk]; show (!decide (V.int _ = V.int _)) = false; rw [decide_eq_true rfl]; rfl) ?_
                refine ⟨_, rfl, _, rfl, cs, _, _, .ref c, rfl, rfl, SqL.of hu6, atI_last _ _, c, A.Chunk, dx, _, .ref rr, rfl, hc6, L.c_Chunk.cl, L.n_Chunk_rows, (by rfl), .inl ⟨rfl, _, SqL.of hr6⟩, _, rfl, rr, _, _, rfl, rfl, hr6, (by omega), ?_⟩
                exact app _ er1
              · have er1 : readLn (some k) p.at_ (p :: r) = .err p.at_ noIndex := by rw [er0]; exact if_neg hik
                refine ifT (by rw [hk]; show (!decide (V.int _ = V.int _)) = true; rw [decide_eq_false fun z => hik (V.int.inj z)]; rfl) ?_
                exact ⟨_, rfl, made2I (log_at hat) (by decide) fun d hd => q2 _ _ er1 _ b6 d hd⟩
        · rw [if_neg (by rw [hrf]; decide)] at er0
          have s46 : Same H4 H6 := s5.trans s6
          have b6 := b4.same s46
          have hq6 := s46 _ _ hq4
          obtain ⟨t0, rfl, ht0⟩ := h0all
          have ht6 := s46 _ _ ht0
          refine ⟨_, rfl, q, _, _, .ref t0, rfl, rfl, SqL.of hq6, at_ofN (j := 0) rfl rfl, t0, _, _, .int (p.at_ : Int), rfl, rfl, SqT.of ht6, rfl, ?_⟩
          refine ⟨_, rfl, rfl, _, rfl, ifT rfl ⟨_, rfl, made2I (log_at hat) (by decide) fun d hd => q2 _ _ er0 _ b6 d hd⟩⟩
      · refine ⟨_, rfl, ?_⟩
        have hbody : LineR H4 q (bodyF (p :: r)) := by
          rw [hbd false (by rw [Bool.not_eq_true] at hn1; exact hn1), if_neg (by decide)]
          exact ⟨_, hq4, hn, hxs4⟩
        refine ⟨q, _, rfl, hbody, hro, fun hrf H6 t s6 => ?_, fun hrf H6 s6 => ?_⟩
        · rw [if_pos hrf] at er0
          have s46 : Same H4 H6 := s6
          have b6 := b4.same s46
          have c6 := c4.same s46
          have hq6 := s46 _ _ hq4
          obtain ⟨t0, rfl, ht0⟩ := h0all
          have ht6 := s46 _ _ ht0
          refine ⟨_, rfl, q, _, _, .ref t0, rfl, rfl, SqL.of hq6, at_ofN (j := 0) rfl rfl, t0, _, _, .int (p.at_ : Int), rfl, rfl, SqT.of ht6, rfl, ?_⟩
          refine ⟨_, rfl, rfl, _, rfl, ifF rfl ?_⟩
          cases st with
          | none => exact ⟨_, rfl, _, .inl ⟨_, SqL.of c6, rfl⟩, ifT rfl ⟨_, rfl, made2I (log_at hat) (by decide) fun d hd => q2 _ _ er0 _ b6 d hd⟩⟩
          | some k =>
            obtain ⟨us, c, dx, w1, w2, rr, sc, rs, hu6, hc6, hr6, hk, nrc, nr2, ul, kl⟩ := c6
            have ncs : c ≠ cs := fun z => by rw [z, hu6] at hc6; cases hc6
            have ncr : c ≠ rr := fun z => by rw [z, hr6] at hc6; cases hc6
            have app : ∀ v : V, readLn (some k) p.at_ (p :: r) = .ok (some (k + 1)) → Q .non (upd H6 rr (.lst (rs ++ [v]))) := fun v er => by
              refine q1 _ er _ (fun b o n h => ?_) ⟨us, c, dx, w1, w2, rr, sc, rs ++ [v], (by rw [upd_ne (Ne.symm nrc)]; exact hu6), (by rw [upd_ne ncr]; exact hc6), upd_same, by rw [List.length_append, List.length_singleton, hk], nrc, nr2, by omega, by omega⟩
              rw [upd_ne (fun z => by rw [z, nr2] at h; cases h)]
              exact b6 b o n h
            refine ⟨_, rfl, _, .inl ⟨_, SqL.of hu6, rfl⟩, ifF (by cases us <;> rfl) ?_⟩
            cases hnd : numd (p :: r) with
            | none =>
              have hf : nb' = false := by rw [enb, hnd]; rfl
              rw [hnd] at er0
              refine ⟨_, rfl, _, rfl, ifF hf (ifF rfl ?_)⟩
              refine ⟨_, rfl, _, rfl, cs, _, _, .ref c, rfl, rfl, SqL.of hu6, atI_last _ _, c, A.Chunk, dx, _, .ref rr, rfl, hc6, L.c_Chunk.cl, L.n_Chunk_rows, (by rfl), .inl ⟨rfl, _, SqL.of hr6⟩, _, rfl, rr, _, _, rfl, rfl, hr6, (by omega), ?_⟩
              exact app _ er0
            | some i =>
              have hf : nb' = true := by rw [enb, hnd]; rfl
              rw [hnd] at er0
              obtain ⟨a1, r1, ep⟩ := numd_head hnd
              have hx2 : p.tl[2]? = some (.int i) := by
                injection ep with ep _
                rw [ep]
                rfl
              refine ⟨_, rfl, _, rfl, ifT hf ?_⟩
              refine ⟨_, rfl, q, _, _, .ref t0, rfl, rfl, SqL.of hq6, at_ofN (j := 0) rfl rfl, t0, _, _, .int i, rfl, rfl, SqT.of ht6, hx2, ?_⟩
              refine ⟨_, rfl, _, rfl, cs, _, _, .ref c, rfl, rfl, SqL.of hu6, atI_last _ _, c, A.Chunk, dx, _, .ref rr, rfl, hc6, L.c_Chunk.cl, L.n_Chunk_rows, (by rfl), rr, rs, rfl, .inl (SqL.of hr6), rfl, _, rfl, ?_⟩
              by_cases hik : i = (k : Int)
              · have er1 : readLn (some k) p.at_ (p :: r) = .ok (some (k + 1)) := by rw [er0]; exact if_pos hik
                refine ifF (by rw [hik, hk]; show (!decide (V.int _ = V.int _)) = false; rw [decide_eq_true rfl]; rfl) ?_
                refine ⟨_, rfl, _, rfl, cs, _, _, .ref c, rfl, rfl, SqL.of hu6, atI_last _ _, c, A.Chunk, dx, _, .ref rr, rfl, hc6, L.c_Chunk.cl, L.n_Chunk_rows, (by rfl), .inl ⟨rfl, _, SqL.of hr6⟩, _, rfl, rr, _, _, rfl, rfl, hr6, (by omega), ?_⟩
                exact app _ er1
              · have er1 : readLn (some k) p.at_ (p :: r) = .err p.at_ noIndex := by rw [er0]; exact if_neg hik
                refine ifT (by rw [hk]; show (!decide (V.int _ = V.int _)) = true; rw [decide_eq_false fun z => hik (V.int.inj z)]; rfl) ?_
                exact ⟨_, rfl, made2I (log_at hat) (by decide) fun d hd => q2 _ _ er1 _ b6 d hd⟩
        · rw [if_neg (by rw [hrf]; decide)] at er0
          have s46 : Same H4 H6 := s6
          have b6 := b4.same s46
          have hq6 := s46 _ _ hq4
          obtain ⟨t0, rfl, ht0⟩ := h0all
          have ht6 := s46 _ _ ht0
          refine ⟨_, rfl, q, _, _, .ref t0, rfl, rfl, SqL.of hq6, at_ofN (j := 0) rfl rfl, t0, _, _, .int (p.at_ : Int), rfl, rfl, SqT.of ht6, rfl, ?_⟩
          refine ⟨_, rfl, rfl, _, rfl, ifT rfl ⟨_, rfl, made2I (log_at hat) (by decide) fun d hd => q2 _ _ er0 _ b6 d hd⟩⟩
end
end My
/-! ### read_code -/
namespace My
open PySem L2 SX XT XS XE
open C8 (pss_cut tCut cutS_slice pe_gc)
def readAll : Option Nat → List (List Pc) → Rl
  | st, [] => .ok st
  | st, [] :: ls => readAll st ls
  | st, (p :: r) :: ls => match readLn st p.at_ (p :: r) with
    | .ok st' => readAll st' ls
    | .err a m => .err a m
    | .bad => .bad
def readS (st : Option Nat) : Sc → Rl
  | .err a b => .err a (msgC b)
  | .ok ls => readAll st ls
def readF (l : List Nat) : Rl := readS none (scan 0 l [])
theorem scanF_at : ∀ (f a : Nat) (r : List Nat) (cur : List Pc) (ls : List (List Pc)) (n : Nat), a + r.length ≤ n → (∀ p ∈ cur, p.at_ ≤ n) → scanF f a r cur = .ok ls → ∀ l ∈ ls, ∀ p ∈ l, p.at_ ≤ n
  | 0, _, _, _, _, _, _, _, h => by cases h
  | f + 1, a, [], cur, ls, n, _, hc, h => by
    injection h with h
    subst h
    intro l hl p hp
    rw [List.mem_singleton] at hl
    subst hl
    exact hc p hp
  | f + 1, a, c :: r, cur, ls, n, hn, hc, h => by
    rw [List.length_cons] at hn
    unfold scanF at h
    split at h
    · cases h1 : scanF f (a + 1) r [] with
      | err x y => rw [h1] at h; cases h
      | ok ls1 =>
        rw [h1] at h
        injection h with h
        subst h
        have := scanF_at f (a + 1) r [] ls1 n (by omega) (fun p hp => by cases hp) h1
        intro l hl p hp
        rcases List.mem_append.mp hl with hl | hl
        · rw [List.mem_singleton] at hl
          subst hl
          exact hc p hp
        · exact this l hl p hp
    · split at h
      · exact scanF_at f (a + 1) r cur ls n (by omega) hc h
      · split at h
        · have := Lx.line_le (c :: r)
          rw [List.length_cons] at this
          exact scanF_at f _ _ cur ls n (by rw [List.length_drop, List.length_cons]; omega) hc h
        · cases hp : pieceF c r with
          | err b => rw [hp] at h; cases h
          | ok v m =>
            rw [hp] at h
            have := pieceF_len hp
            refine scanF_at f _ _ _ ls n (by rw [List.length_drop, List.length_cons]; omega) (fun p hp => ?_) h
            rcases List.mem_append.mp hp with hp | hp
            · exact hc p hp
            · rw [List.mem_singleton] at hp
              subst hp
              show a ≤ n
              omega
theorem ChS.mono {H2 H : Hp} {A : Ads} {cs : Addr} {m m' : Nat} (h : m ≤ m') : ∀ {st : Option Nat}, ChS H2 H A cs m st → ChS H2 H A cs m' st
  | none, h => h
  | some k, ⟨us, c, dx, v1, v2, r, sc, rs, a1, a2, a3, a4, a5, a6, a7, a8⟩ => ⟨us, c, dx, v1, v2, r, sc, rs, a1, a2, a3, a4, a5, a6, by omega, by omega⟩
section
variable {P : Program} {w : World} {K : PySem.W.Frag} {mg : Str → Option Value} {base : Heap} {A : Ads}
def spRc (A : Ads) : Sp := fun vs H Q E => ∃ (l : List Nat), vs = [.str (S l)] ∧ l.length ≤ 1000000 ∧ readF l ≠ .bad ∧
  (∀ st, readF l = .ok st → ∀ H' v, Same H H' → Q v H') ∧ (∀ a m, readF l = .err a m → ∀ H', Same H H' → ErrC E A H' a m)
theorem ok_read_code (L : Lib P K mg A) (T : Tabs K w mg) (hN : NoWords K T.wA) (hS : Shp K T.sA) : FnOk P w K mg base (L2.CX P w) 8 L.read_code.f L.read_code.fd ["text"] (spRc A) := by
  have G_lines_of : FnOk P w K mg base (L2.CX P w) 5 L.lines_of.f L.lines_of.fd ["text"] (spLO A) := ok_lines_of L T
  have G_read_line : FnOk P w K mg base (L2.CX P w) 7 L.read_line.f L.read_line.fd ["line", "chunks"] (spRl A) := ok_read_line L T hN hS
  refine L.read_code.F.okX (k := 7) sc_read_code (fun vs H Q E h => ?_) (fun cdv A' outer s H vs Q E hr h => ?_)
  · obtain ⟨l, rfl, _⟩ := h
    rfl
  · obtain ⟨l, rfl, hl, nb, q1, q2⟩ := h
    have hz := sizeLine_eq
    refine ⟨_, (pss_cons (ps_set (i := 1) sc_read_code.nd rfl (.inl rfl) (pe_lst pa_nil))
      (pss_cons (ps_for (passes_of rfl) rfl (pi_list (pe_callS G_lines_of (hr.mono (by omega)) (by rfl) L.lines_of.g L.lines_of.F.kp L.lines_of.b (fun σ => passAt (takes_of rfl rfl rfl rfl) σ) (pa_cons (pv 0) pa_nil))) (pg_name (i := 2) sc_read_code.nd rfl (.inl rfl))
        (pss_one (ps_if (pt_truth (pv 2) (by intro _; rfl))
        (pss_one (ps_expr (pe_callS G_read_line (hr.mono (by omega)) (by rfl) L.read_line.g L.read_line.F.kp L.read_line.b (fun σ => passAt (takes_of rfl rfl rfl rfl) σ) (pa_cons (pv 2) (pa_cons (pv 1) pa_nil)))))
        pss_nil)))
      (pss_one (ps_ret (pv 1))))), ?_⟩
    refine ⟨Nat.zero_le _, fun cs ncs => ?_⟩
    have s0 : Same H (upd H cs (.lst [])) := same_upd ncs
    have hcs0 : upd H cs (.lst []) cs = some (.lst []) := upd_same
    generalize upd H cs (.lst []) = H0 at s0 hcs0 ⊢
    refine ⟨_, rfl, l, rfl, hl, fun ls hsc H2 p us s2 np hp hul hus => ?_, fun a b hsc H2 s2 => ?_⟩
    · have hcs2 := s2 _ _ hcs0
      have npc : p ≠ cs := fun z => by rw [z, hcs0] at np; cases np
      have sH : ∀ {H3 : Hp}, But cs H2 H3 → Same H H3 := fun b b' o h => b b' o (ne_of_none h ncs) (s2 _ _ (s0 _ _ h))
      have eF : readF l = readAll none ls := by unfold readF; rw [hsc]; rfl
      have hlen := hus.len
      refine ⟨p, rfl, ⟨_, SqL.of hp⟩, for_list (K := K) (a := p) (xs := us) (fun i σ H' => ∃ (y : Option V) (st : Option Nat), σ = [some (.str (S l)), some (.ref cs), y] ∧ But cs H2 H' ∧ ChS H2 H' A cs i st ∧ readAll st (ls.drop i) = readF l) ⟨none, none, rfl, fun b o _ h => h, hcs2, eF.symm⟩ (fun i σ H' _ h => by obtain ⟨_, _, _, b, _⟩ := h; exact SqL.of (b _ _ npc hp)) ?_ ?_⟩
      · rintro i v σ H3 hv ⟨y, st, rfl, hb, hc, hr⟩
        obtain ⟨ps, hps, t, rfl, ht0, _, _, hline⟩ := hus.get hv
        have hi : i < ls.length := (List.getElem?_eq_some_iff.mp hps).1
        have ntc : t ≠ cs := fun z => by rw [z, hcs0] at ht0; cases ht0
        have ed : ls.drop i = ps :: ls.drop (i + 1) := by
          rw [List.drop_eq_getElem_cons hi]
          rw [List.getElem?_eq_getElem hi] at hps
          injection hps with hps
          rw [hps]
        rw [ed] at hr
        obtain ⟨xs, ex, _, hxs⟩ := hb.line hcs2 ntc hline
        cases ps with
        | nil =>
          cases xs with
          | cons _ _ => exact hxs.elim
          | nil => exact ⟨_, rfl, _, .inl ⟨_, SqL.of ex, rfl⟩, ifF rfl ⟨_, st, rfl, hb, hc.mono (Nat.le_succ _), hr⟩⟩
        | cons p1 r1 =>
          cases xs with
          | nil => exact hxs.elim
          | cons v0 vs =>
            have er : readAll st ((p1 :: r1) :: ls.drop (i + 1)) = match readLn st p1.at_ (p1 :: r1) with
              | .ok st' => readAll st' (ls.drop (i + 1))
              | .err a m => .err a m
              | .bad => .bad := rfl
            rw [er] at hr
            refine ⟨_, rfl, _, .inl ⟨_, SqL.of ex, rfl⟩, ifT rfl ?_⟩
            refine ⟨_, rfl, _, rfl, t, cs, p1, r1, H2, i, st, rfl, hline, ntc, hcs2, hb, hc, (by omega), ?_, fun z => ?_, fun st' e H4 b4 c4 => ?_, fun a m e H4 b4 => ?_⟩
            · exact Nat.le_trans (scanF_at (l.length + 1) 0 l [] ls l.length (by omega) (fun p hp => by cases hp) hsc (p1 :: r1) (List.mem_of_getElem? hps) p1 List.mem_cons_self) hl
            · rw [z] at hr
              exact nb hr.symm
            · rw [e] at hr
              exact ⟨_, st', rfl, b4, c4, hr⟩
            · rw [e] at hr
              exact q2 _ _ hr.symm _ (sH b4)
      · rintro σ H3 ⟨y, st, rfl, hb, hc, hr⟩
        rw [hlen, List.drop_length] at hr
        exact ⟨_, rfl, q1 st hr.symm _ _ (sH hb)⟩
    · exact q2 _ _ (by unfold readF; rw [hsc]; rfl) _ (s0.trans s2)
end
end My
/-! ### texts put together, shifted -/
namespace My
open PySem L2 SX XT XS XE
theorem run_nl (p : Nat → Bool) (h : p 10 = false) : ∀ r x : List Nat, Lx.run p (r ++ 10 :: x) = Lx.run p r
  | [], x => by
    show (if p 10 = true then Lx.run p x + 1 else 0) = 0
    rw [h]
    rfl
  | c :: r, x => by
    show (if p c = true then Lx.run p (r ++ 10 :: x) + 1 else 0) = (if p c = true then Lx.run p r + 1 else 0)
    rw [run_nl p h r x]
theorem line_nl : ∀ r x : List Nat, Lx.line (r ++ 10 :: x) = Lx.line r
  | [], x => rfl
  | c :: r, x => by
    show (if c = 10 then 0 else Lx.line (r ++ 10 :: x) + 1) = (if c = 10 then 0 else Lx.line r + 1)
    rw [line_nl r x]
theorem textF_app : ∀ (n : Nat) (r : List Nat), r.length ≤ n → ∀ (acc : List Nat) (k : Nat) (x : List Nat), textF (r ++ 10 :: x) acc k = textF r acc k
  | n, [], _, acc, k, x => by
    rw [List.nil_append, textF_nl]
    rw [textF.eq_def]
  | 0, c :: r, h, _, _, _ => by simp at h
  | n + 1, c :: r, h, acc, k, x => by
    rw [List.length_cons] at h
    rw [List.cons_append]
    by_cases h34 : c = 34
    · rw [textF.eq_def (c :: (r ++ _)), textF.eq_def (c :: r)]
      simp [h34]
    · by_cases h10 : c = 10
      · subst h10
        rw [textF_nl, textF_nl]
      · by_cases h92 : c = 92
        · subst h92
          cases r with
          | nil =>
            rw [List.nil_append, textF_bad (r := 10 :: x) (by show esc 10 = none; decide), textF_bad (r := []) rfl]
          | cons e r =>
            cases he : esc e with
            | none => rw [textF_bad (r := e :: r ++ 10 :: x) he, textF_bad (r := e :: r) he]
            | some y =>
              rw [List.cons_append, textF_esc he, textF_esc he]
              exact textF_app n r (by rw [List.length_cons] at h; omega) _ _ _
        · rw [textF_one h34 h10 h92, textF_one h34 h10 h92]
          exact textF_app n r (by omega) _ _ _
theorem pieceF_app (c : Nat) (r x : List Nat) : pieceF c (r ++ 10 :: x) = pieceF c r := by
  have ec : c :: (r ++ 10 :: x) = (c :: r) ++ 10 :: x := rfl
  have hl := Lx.run_le Lx.isLet (c :: r)
  unfold pieceF
  rw [ec, run_nl _ (by decide), List.take_append_of_le_length hl, textF_app r.length r (Nat.le_refl _)]
  have hn : ∀ s, s ≤ 1 → numP s ((c :: r) ++ 10 :: x) = numP s (c :: r) := fun s hs => by
    have h1 : s ≤ (c :: r).length := by rw [List.length_cons]; omega
    have h2 := Lx.run_le Lx.isDig ((c :: r).drop s)
    rw [List.length_drop] at h2
    unfold numP
    rw [List.drop_append_of_le_length h1, run_nl _ (by decide), List.take_append_of_le_length (by omega)]
  rw [hn _ (by split <;> omega)]
def Sc.th (s k : Sc) : Sc := match s with
  | .err a b => .err a b
  | .ok ls => k.pre ls
theorem Sc.th_pre {s k : Sc} {d : List (List Pc)} : (s.th k).pre d = (s.pre d).th k := by
  cases s with
  | err a b => rfl
  | ok ls => show (k.pre ls).pre d = k.pre (d ++ ls); rw [Sc.pre_pre]
theorem scan_app : ∀ (n : Nat) (r : List Nat), r.length ≤ n → ∀ (a : Nat) (cur : List Pc) (x : List Nat), scan a (r ++ 10 :: x) cur = (scan a r cur).th (scan (a + r.length + 1) x [])
  | n, [], _, a, cur, x => by
    rw [List.nil_append, scan_nl, scan_nil]
    rfl
  | 0, c :: r, h, _, _, _ => by simp at h
  | n + 1, c :: r, h, a, cur, x => by
    rw [List.length_cons] at h
    rw [List.cons_append]
    by_cases h10 : c = 10
    · subst h10
      rw [scan_nl, scan_nl, scan_app n r (by omega), Sc.th_pre, List.length_cons]
      congr 2
      omega
    · by_cases h32 : c = 32
      · subst h32
        rw [scan_sp, scan_sp, scan_app n r (by omega), List.length_cons]
        congr 2
        omega
      · by_cases h59 : c = 59
        · subst h59
          have hl := Lx.line_le (59 :: r)
          have hl1 : 1 ≤ Lx.line (59 :: r) := Nat.succ_le_succ (Nat.zero_le _)
          rw [scan_cm, scan_cm]
          rw [show (59 :: (r ++ 10 :: x)) = (59 :: r) ++ 10 :: x from rfl, line_nl, List.drop_append_of_le_length hl]
          rw [List.length_cons] at hl
          rw [scan_app n _ (by rw [List.length_drop, List.length_cons]; omega), List.length_drop, List.length_cons]
          congr 2
          omega
        · cases hp : pieceF c r with
          | err b =>
            rw [scan_er h10 h32 h59 (by rw [pieceF_app]; exact hp), scan_er h10 h32 h59 hp]
            rfl
          | ok v m =>
            have hm := pieceF_len hp
            rw [scan_pc h10 h32 h59 (by rw [pieceF_app]; exact hp), scan_pc h10 h32 h59 hp]
            rw [show (c :: (r ++ 10 :: x)) = (c :: r) ++ 10 :: x from rfl, List.drop_append_of_le_length (by rw [List.length_cons]; omega)]
            rw [scan_app n _ (by rw [List.length_drop, List.length_cons]; omega), List.length_drop, List.length_cons]
            congr 2
            omega
def sh (k : Nat) (p : Pc) : Pc := ⟨p.at_ + k, p.v⟩
def Sc.sh (k : Nat) : Sc → Sc
  | .err a b => .err (a + k) b
  | .ok ls => .ok (ls.map (·.map (My.sh k)))
def Rl.sh (k : Nat) : Rl → Rl
  | .bad => .bad
  | .err a m => .err (a + k) m
  | .ok st => .ok st
theorem Sc.pre_sh {k : Nat} {d : List (List Pc)} {s : Sc} : (s.pre d).sh k = (s.sh k).pre (d.map (·.map (My.sh k))) := by
  cases s with
  | err a b => rfl
  | ok ls => show Sc.ok _ = Sc.ok _; rw [List.map_append]
theorem scanF_sh (k : Nat) : ∀ (f a : Nat) (r : List Nat) (cur : List Pc), scanF f (a + k) r (cur.map (sh k)) = (scanF f a r cur).sh k
  | 0, _, _, _ => rfl
  | _ + 1, _, [], _ => rfl
  | f + 1, a, c :: r, cur => by
    unfold scanF
    split
    · rw [Sc.pre_sh, ← scanF_sh k f (a + 1) r []]
      rw [show a + k + 1 = a + 1 + k by omega]
      rfl
    · split
      · rw [← scanF_sh k f (a + 1) r cur, show a + k + 1 = a + 1 + k by omega]
      · split
        · rw [← scanF_sh k f _ _ cur, show a + k + Lx.line (c :: r) = a + Lx.line (c :: r) + k by omega]
        · cases hp : pieceF c r with
          | err b => rfl
          | ok v n =>
            show scanF f (a + k + n) _ _ = (scanF f (a + n) _ _).sh k
            rw [← scanF_sh k f _ _ _, show a + k + n = a + n + k by omega, List.map_append]
            rfl
theorem scan_sh (k a : Nat) (r : List Nat) : scan (a + k) r [] = (scan a r []).sh k := scanF_sh k _ a r []
theorem begF_sh (k : Nat) (ps : List Pc) : begF (ps.map (sh k)) = begF ps := by
  rcases ps with _ | ⟨⟨a, v⟩, _ | ⟨p, _ | ⟨q, _ | _⟩⟩⟩ <;> (try rfl) <;> cases v <;> rfl
theorem numd_sh (k : Nat) (ps : List Pc) : numd (ps.map (sh k)) = numd ps := by
  rcases ps with _ | ⟨⟨a, v⟩, _ | ⟨⟨b, u⟩, r⟩⟩
  · rfl
  · cases v <;> rfl
  · cases v <;> cases u <;> rfl
theorem bodyF_sh (k : Nat) (ps : List Pc) : bodyF (ps.map (sh k)) = (bodyF ps).map (sh k) := by
  unfold bodyF
  rw [numd_sh]
  split
  · rw [List.map_drop]
  · rfl
theorem rowOk_sh (k : Nat) (ps : List Pc) : rowOk (ps.map (sh k)) = rowOk ps := by
  rcases ps with _ | ⟨⟨a, v⟩, r⟩
  · rfl
  · cases v with
    | w x =>
      show rowOkW (shp x) (r.map (sh k)) = rowOkW (shp x) r
      cases shp x with
      | none => rfl
      | some o => cases o with
        | none => rfl
        | some zs => show ((zs.zip (r.map (sh k))).all fun a => (!decide (a.1 = ("value" : Str))) || valOkB a.2) = ((zs.zip r).all fun a => (!decide (a.1 = ("value" : Str))) || valOkB a.2); rw [List.zip_map_right, List.all_map]; rfl
    | _ => rfl
theorem rowF_sh (k : Nat) (ps : List Pc) : rowF (ps.map (sh k)) = rowF ps := by
  rcases ps with _ | ⟨⟨a, v⟩, r⟩
  · rfl
  · cases v with
    | w x =>
      show rowFW (shp x) (r.map (sh k)) = rowFW (shp x) r
      cases shp x with
      | none => rfl
      | some o => cases o with
        | none => rfl
        | some zs =>
          show (decide ((r.map (sh k)).length = zs.length) && (zs.zip (r.map (sh k))).all fun a => fitF a.1 a.2) = (decide (r.length = zs.length) && (zs.zip r).all fun a => fitF a.1 a.2)
          rw [List.length_map, List.zip_map_right, List.all_map]
          rfl
    | _ => rfl
theorem readLn_sh (k : Nat) (st : Option Nat) (a : Nat) (ps : List Pc) : readLn st (a + k) (ps.map (sh k)) = (readLn st a ps).sh k := by
  unfold readLn
  rw [begF_sh, bodyF_sh, rowOk_sh, rowF_sh, numd_sh]
  split
  · rfl
  · split
    · split
      · cases st with
        | none => rfl
        | some j => cases numd ps with
          | none => rfl
          | some i =>
            show (if i = (j : Int) then Rl.ok (some (j + 1)) else .err (a + k) noIndex) = (if i = (j : Int) then Rl.ok (some (j + 1)) else .err a noIndex).sh k
            split <;> rfl
      · rfl
    · rfl
theorem readAll_sh (k : Nat) : ∀ (ls : List (List Pc)) (st : Option Nat), readAll st (ls.map (·.map (sh k))) = (readAll st ls).sh k
  | [], _ => rfl
  | [] :: ls, st => readAll_sh k ls st
  | (p :: r) :: ls, st => by
    have e := readLn_sh k st p.at_ (p :: r)
    show (match readLn st (p.at_ + k) ((p :: r).map (sh k)) with
      | .ok st' => readAll st' (ls.map (·.map (sh k)))
      | .err a m => .err a m
      | .bad => .bad) = Rl.sh k (match readLn st p.at_ (p :: r) with
      | .ok st' => readAll st' ls
      | .err a m => .err a m
      | .bad => .bad)
    rw [e]
    cases readLn st p.at_ (p :: r) with
    | bad => rfl
    | err a m => rfl
    | ok st' => exact readAll_sh k ls st'
theorem readS_sh (k : Nat) (st : Option Nat) (s : Sc) : readS st (s.sh k) = (readS st s).sh k := by
  cases s with
  | err a b => rfl
  | ok ls => exact readAll_sh k ls st
def Rl.th (r : Rl) (f : Option Nat → Rl) : Rl := match r with
  | .bad => .bad
  | .err a m => .err a m
  | .ok st => f st
theorem readAll_app : ∀ (ls ms : List (List Pc)) (st : Option Nat), readAll st (ls ++ ms) = (readAll st ls).th fun st' => readAll st' ms
  | [], _, _ => rfl
  | [] :: ls, ms, st => readAll_app ls ms st
  | (p :: r) :: ls, ms, st => by
    show (match readLn st p.at_ (p :: r) with
      | .ok st' => readAll st' (ls ++ ms)
      | .err a m => .err a m
      | .bad => .bad) = Rl.th (match readLn st p.at_ (p :: r) with
      | .ok st' => readAll st' ls
      | .err a m => .err a m
      | .bad => .bad) _
    cases readLn st p.at_ (p :: r) with
    | bad => rfl
    | err a m => rfl
    | ok st' => exact readAll_app ls ms st'
/-- what stands before is read, and comes to st -/
def PreS (l : List Nat) (st : Option Nat) : Prop := ∀ x, readF (l ++ x) = (readS st (scan 0 x [])).sh l.length
theorem Rl.sh0 (r : Rl) : r.sh 0 = r := by cases r <;> rfl
theorem PreS.nil : PreS [] none := fun x => by
  rw [List.nil_append, List.length_nil, Rl.sh0]
  rfl
theorem Rl.sh_sh {r : Rl} {j k : Nat} : (r.sh j).sh k = r.sh (k + j) := by
  cases r with
  | err a m => show Rl.err _ _ = Rl.err _ _; congr 1; omega
  | _ => rfl
theorem PreS.line {l g : List Nat} {st st' : Option Nat} (h : PreS l st) (e : readS st (scan 0 g []) = .ok st') : PreS (l ++ (g ++ [10])) st' := fun x => by
  rw [List.append_assoc, h, List.append_assoc, List.singleton_append, scan_app g.length g (Nat.le_refl _)]
  cases hs : scan 0 g [] with
  | err a b => rw [hs] at e; cases e
  | ok ls =>
    rw [hs] at e
    have e' : readAll st ls = .ok st' := e
    rw [show 0 + g.length + 1 = 0 + (g.length + 1) by omega, scan_sh]
    have : readS st ((Sc.ok ls).th ((scan 0 x []).sh (g.length + 1))) = readS st' ((scan 0 x []).sh (g.length + 1)) := by
      cases scan 0 x [] with
      | err a b => rfl
      | ok ms =>
        show readAll st (ls ++ _) = _
        rw [readAll_app, e']
        rfl
    rw [this, readS_sh, Rl.sh_sh, List.length_append, List.length_append, List.length_singleton]
end My
/-! ### what is told -/
namespace My
open PySem L2 SX XT XS XE
open C8 (pss_cut tCut cutS_slice pe_gc)
local macro_rules | `(tactic| walk_at "sz") => `(tactic| first | assumption | (simp only [S_len, List.length_append, List.length_cons, List.length_nil] <;> omega))
theorem PreS.fail {l x : List Nat} {st : Option Nat} {a : Nat} {m : Str} (h : PreS l st) (e : readS st (scan 0 x []) = .err a m) : readF (l ++ x) = .err (a + l.length) m := by
  rw [h, e]
  rfl
theorem PreS.done {l : List Nat} {st : Option Nat} (h : PreS l st) : readF l = .ok st := by
  have := h []
  rw [List.append_nil] at this
  rw [this]
  rfl
def gaps : List (List Nat) := [[], [32, 32], [10, 32]]
theorem gap_read {g : List Nat} (hg : g ∈ gaps) (st : Option Nat) (x : List Nat) : readS st (scan 0 (g ++ x) []) = (readS st (scan 0 x [])).sh g.length := by
  simp only [gaps, List.mem_cons, List.not_mem_nil, or_false] at hg
  rcases hg with rfl | rfl | rfl
  · rw [List.nil_append, List.length_nil, Rl.sh0]
  · show readS st (scan 2 x []) = (readS st (scan 0 x [])).sh 2
    rw [← readS_sh, ← scan_sh]
  · show readS st ((scan 2 x []).pre [[]]) = (readS st (scan 0 x [])).sh 2
    rw [← readS_sh, ← scan_sh]
    cases scan (0 + 2) x [] <;> rfl
/-- what stands behind a wrong line -/
theorem behind_err {g y : List Nat} {st : Option Nat} {a : Nat} {m : Str} {ms : List (List Pc)} (e : readS st (scan 0 g []) = .err a m) (hy : scan 0 y [] = .ok ms) : readS st (scan 0 (g ++ 10 :: y) []) = .err a m := by
  rw [scan_app g.length g (Nat.le_refl _)]
  cases hs : scan 0 g [] with
  | err p b => rw [hs] at e; exact e
  | ok ls =>
    rw [hs] at e
    have e' : readAll st ls = .err a m := e
    rw [show 0 + g.length + 1 = 0 + (g.length + 1) by omega, scan_sh, hy]
    show readAll st (ls ++ _) = _
    rw [readAll_app, e']
    rfl
theorem behind_cut {g : List Nat} {st : Option Nat} {ls : List (List Pc)} (hs : scan 0 g [] = .ok ls) : readS st (scan 0 (g ++ [10, 40]) []) = .err (g.length + 1) notHere := by
  rw [show g ++ [10, 40] = g ++ 10 :: [40] from rfl, scan_app g.length g (Nat.le_refl _), hs]
  rw [show 0 + g.length + 1 = 0 + (g.length + 1) by omega, scan_sh]
  show Rl.err (0 + (g.length + 1)) _ = _
  rw [Nat.zero_add]
  rfl
structure Dd (K : PySem.W.Frag) (w : World) (mg : Str → Option Value) (A : Ads) where
  T : Tabs K w mg
  N : NoWords K T.wA
  S : Shp K T.sA
  it : PySem.W.kitOne K (.ref A.InvalidCode) (.ref A.InvalidText) = some false
section
variable {P : Program} {w : World} {K : PySem.W.Frag} {mg : Str → Option Value} {base : Heap} {A : Ads}
def spTd : Sp := fun vs H Q _ => ∃ (l : List Nat), vs = [.str (S l)] ∧ l.length ≤ 1000000 ∧ readF l ≠ .bad ∧
  (∀ st, readF l = .ok st → ∀ H', Same H H' → Q .non H') ∧ (∀ a m, readF l = .err a m → ∀ H' t, Same H H' → H t = none → H' t = some (.tup [.int (a : Int), .str m, .bl true]) → Q (.ref t) H')
theorem ok_law_told (L : Lib P K mg A) (D : Dd K w mg A) : FnOk P w K mg base CX0 9 L.law_told.f L.law_told.fd ["text"] spTd := by
  have G_read_code : FnOk P w K mg base (L2.CX P w) 8 L.read_code.f L.read_code.fd ["text"] (spRc A) := ok_read_code L D.T D.N D.S
  refine L.law_told.F.ok sc_law_told (fun vs H Q E h => ?_) (fun cdv A' outer s H vs Q E hr h => ?_)
  · obtain ⟨l, rfl, _⟩ := h
    rfl
  · obtain ⟨l, rfl, hl, nb, q1, q2⟩ := h
    refine ⟨_, (pss_cons (ps_try_as (i := 1) (Wout := fun _ _ _ _ => False) rfl rfl sc_law_told.nd rfl rfl ⟨rfl, by decide, .inl L.x_InvalidCode.g⟩ takes0 (fun W pn xe tk _ => pss_one (ps_expr (by exact (pe_callS G_read_code (hr.mono (by omega)) (by rfl) L.read_code.g L.read_code.F.kp L.read_code.b (fun σ => passAt tk σ) (by exact (pa_cons (pv 0) pa_nil)))))) (fun a oe cls d pn hz hf => pss_one (ps_ret (pe_tup (pa_cons (pe_xf L.x_InvalidCode.T.xf L.x_InvalidCode.T.n1 hz hf (pv 1)) (pa_cons (pe_xf L.x_InvalidCode.T.xf L.x_InvalidCode.T.n2 hz hf (pv 1)) (pa_cons (pe_and (pe_callB (call_isED L.x_InvalidCode.ec hz hf) (by rfl) L.z_isinstance (by decide +kernel) (pa_cons (pv 1) (pa_cons (pe_gc (v := .ref A.LivequillError) (by rfl) ⟨_, L.x_LivequillError.g, rfl⟩) pa_nil))) (pe_one (pe_not (pe_callB (call_isED L.x_InvalidCode.ec hz hf) (by rfl) L.z_isinstance (by decide +kernel) (pa_cons (pv 1) (pa_cons (pe_gc (v := .ref A.InvalidText) (by rfl) ⟨_, L.x_InvalidText.g, rfl⟩) pa_nil)))))) pa_nil)))))))
      (pss_one (ps_ret pe_non))), ?_⟩
    refine ⟨_, rfl, l, rfl, hl, nb, fun st e H' v s => ?_, fun a m e H' s d hd => ?_⟩
    · exact q1 st e _ s
    · have xd : upd H' d (.xd [("message", .str m), ("offset", .int (a : Int))]) d = some (.xd [("message", .str m), ("offset", .int (a : Int))]) := upd_same
      have sd : Same H (upd H' d (.xd [("message", .str m), ("offset", .int (a : Int))])) := s.trans (same_upd hd)
      refine ⟨true, L.x_InvalidCode.T.te, fun _ a0 _ => ?_, fun q => Bool.noConfusion q⟩
      refine ⟨_, rfl, rfl, rfl, d, _, _, rfl, xd, (by rw [lk_skip (by decide +kernel)]; exact lk_hit), _, rfl, rfl, rfl, d, _, _, rfl, xd, lk_hit, ?_⟩
      refine ⟨_, rfl, _, .ref A.LivequillError, true, d, _, rfl, rfl, rfl, (fun u r => r), xd, L.k_InvalidCode_LivequillError, _, rfl, ifT rfl ?_⟩
      refine ⟨_, rfl, _, .ref A.InvalidText, false, d, _, rfl, rfl, rfl, (fun u r => r), xd, D.it, ?_⟩
      exact ⟨_, rfl, (by show 3 ≤ sizeLine; decide), fun t nt => q2 a m e _ t (sd.trans (same_upd nt)) (sd.free nt) upd_same⟩
end
end My
/-! ### the lines that the law writes -/
namespace My
open PySem L2 SX XT XS XE
open C8 (pss_cut tCut cutS_slice pe_gc)
def cd (z : Str) : List Nat := z.cps.toList
theorem S_cd (z : Str) : S (cd z) = z := by
  cases z
  rfl
def Rl.isOk (r : Rl) (k : Nat) : Bool := match r with
  | .ok (some j) => decide (j = k)
  | _ => false
theorem Rl.ok_of {r : Rl} {k : Nat} (h : r.isOk k = true) : r = .ok (some k) := by
  unfold Rl.isOk at h
  split at h
  · rw [of_decide_eq_true h]
  · cases h
def Rl.isErr (r : Rl) (a : Nat) (m : Str) : Bool := match r with
  | .err b n => decide (b = a) && decide (n = m)
  | _ => false
theorem Rl.err_of {r : Rl} {a : Nat} {m : Str} (h : r.isErr a m = true) : r = .err a m := by
  unfold Rl.isErr at h
  split at h
  · rw [Bool.and_eq_true, decide_eq_true_eq, decide_eq_true_eq] at h
    rw [h.1, h.2]
  · cases h
def Sc.isErr (r : Sc) (a : Nat) (c : Bool) : Bool := match r with
  | .err b d => decide (b = a) && decide (d = c)
  | _ => false
theorem Sc.err_of {r : Sc} {a : Nat} {c : Bool} (h : r.isErr a c = true) : r = .err a c := by
  unfold Sc.isErr at h
  split at h
  · rw [Bool.and_eq_true, decide_eq_true_eq, decide_eq_true_eq] at h
    rw [h.1, h.2]
  · cases h
def Sc.isOk (r : Sc) : Bool := match r with
  | .ok _ => true
  | _ => false
theorem Sc.ok_of {r : Sc} (h : r.isOk = true) : ∃ ls, r = .ok ls := by
  cases r with
  | ok ls => exact ⟨ls, rfl⟩
  | err a b => cases h
abbrev rightZ : List Str := ["const 1", "pop", "add 4", "call 0 2", "field \"x\" 3", "const print", "ret", "escape 0 1 2"]
abbrev lineZ0 : List Str := ["pops", "const", "const 1 2", "load -1", "load \"a\"", "load 1000000000", "add", "pop pop", "field x 3", "call 1", "5 pop", "pop:", "3: : pop", "const nil", "function 0", "function 0 -1", "0: function 1 0", "escape 1 2", "12", ":", "\"x\"", "Const 1", "const reads", "function 0 0 0", "load 00001000000000"]
abbrev nines : Str := S (cd "const " ++ List.replicate 301 57)
abbrev lineZ : List Str := lineZ0 ++ [nines, "set item 1"]
abbrev cutZ : List Str := ["const \"ab", "const \"a\\tb\"", "field \"x 3", "const \"a\\", "field \"\\x\" 1"]
abbrev signZ : List Str := ["+", "(", "-", "'", "=", "~", ".", "- 1", "*2", "/"]
abbrev firstZ : List Str := ["const 1 ", "", "pop ", "call 0"]
abbrev behindZ : List Str := ["", "\n", "\npop\n", "\npops\n7: pop\n"]
def stOf (k : Nat) : Option Nat := if k = 0 then none else some (k - 1)
theorem ck_right : ∀ z ∈ rightZ, ∀ k < 6, ∀ sp ∈ ([[], [32, 32]] : List (List Nat)), ∀ tl ∈ ([[], [32, 59, 32, 34]] : List (List Nat)), (readS (some k) (scan 0 (sp ++ (cd z ++ tl)) [])).isOk (k + 1) = true := by decide +kernel
theorem ck_head : ∀ g ∈ ([[], [32]] : List (List Nat)), (readS none (scan 0 (g ++ cd "function 0 0") [])).isOk 0 = true := by decide +kernel
theorem ck_none : ∀ z ∈ rightZ, (readS none (scan 0 (cd z) [])).isErr 0 noFun = true ∧ (scan 0 (cd z) []).isOk = true := by decide +kernel
theorem ck_line : ∀ z ∈ lineZ, ∀ k < 7, (readS (stOf k) (scan 0 (cd z) [])).isErr 0 noLine = true ∧ (scan 0 (cd z) []).isOk = true := by decide +kernel
theorem ck_len : ∀ z ∈ rightZ ++ lineZ ++ cutZ, z.length ≤ 400 := by decide +kernel
theorem ck_cut : ∀ z ∈ cutZ, (scan 0 (cd z) []).isErr (Txt.find z "\"").toNat true = true ∧ 0 ≤ Txt.find z "\"" := by decide +kernel
theorem ck_sign : ∀ z ∈ firstZ, ∀ y ∈ signZ, (scan 0 (cd z ++ cd y) []).isErr (cd z).length false = true ∧ (cd z ++ cd y).length ≤ 400 := by decide +kernel
theorem ck_behind : ∀ z ∈ behindZ, z = "" ∨ ∃ y ms, cd z = 10 :: y ∧ scan 0 y [] = .ok ms := by
  have h : ∀ z ∈ behindZ, z = "" ∨ ((cd z).head? = some 10 ∧ (scan 0 (cd z).tail []).isOk = true) := by decide +kernel
  intro z hz
  rcases h z hz with e | ⟨h1, h2⟩
  · exact .inl e
  · obtain ⟨ms, hm⟩ := Sc.ok_of h2
    refine .inr ⟨(cd z).tail, ms, ?_, hm⟩
    cases hc : cd z with
    | nil => rw [hc] at h1; cases h1
    | cons c r =>
      rw [hc] at h1
      injection h1 with h1
      rw [h1]
      rfl
end My
/-! ### what the law picks -/
namespace My
open PySem L2 SX XT XS XE
open C8 (pss_cut tCut cutS_slice pe_gc)
local macro_rules | `(tactic| walk_at "sz") => `(tactic| first | assumption | (simp only [S_len, List.length_append, List.length_cons, List.length_nil] <;> omega))
theorem op_mul_str {X : Cx} : OpR X (binaryOp .Mult) (fun x y H Q => ∃ z n, x = .str z ∧ y = .int n ∧ MulOk z n ∧ Q (.str (Txt.mul z n)) H) := by
  intro pins s σ H x y v u Q I rx ry h
  obtain ⟨z, n, rfl, rfl, hz, q⟩ := h
  obtain ⟨t, rfl⟩ := rx
  obtain ⟨t', rfl⟩ := ry
  exact SB.mul hz (fun t' tk => ⟨.str (Txt.mul z n), H, I.tok _, ⟨_, rfl⟩, q⟩)
theorem mem_strs {v : V} {zs : List Str} (h : v ∈ zs.map V.str) : ∃ z ∈ zs, v = .str z := by
  obtain ⟨z, hz, e⟩ := List.mem_map.mp h
  exact ⟨z, hz, e.symm⟩
theorem cd_len (z : Str) : (cd z).length = z.length := by
  cases z
  rfl
theorem str_len {z : Str} {n : Nat} (h : z.length ≤ n) (hn : n ≤ 16777216) : z.length ≤ sizeLine := by rw [sizeLine_eq]; omega
section
variable {P : Program} {w : World} {K : PySem.W.Frag} {mg : Str → Option Value} {base : Heap} {A : Ads}
def spZ (K : PySem.W.Frag) (zs : List Str) : Sp := fun vs H Q _ => ∃ (a p : Addr) (ns : List Int), vs = [.ref p] ∧ StL K H a p ns ∧ ∀ H' z, z ∈ zs → StL K H' a p ns → Q (.str z) H'
theorem ok_law_right (L : Lib P K mg A) : FnOk P w K mg base CX0 4 L.law_right.f L.law_right.fd ["state"] (spZ K rightZ) := by
  have G_law_pick : FnOk P w K mg base CX0 3 L.law_pick.f L.law_pick.fd ["state", "row"] (spPick K) := ok_law_pick L
  refine L.law_right.F.ok sc_law_right (fun vs H Q E h => ?_) (fun cdv A' outer s H vs Q E hr h => ?_)
  · obtain ⟨a, p, ns, rfl, _⟩ := h
    rfl
  · obtain ⟨a, p, ns, rfl, st, q⟩ := h
    refine ⟨_, (pss_one (ps_ret (pe_call G_law_pick (hr.mono (by omega)) (by rfl) L.law_pick.g L.law_pick.F.kp L.law_pick.b .nil pass0 (pa_cons (pv 0) (pa_cons (pe_tup (pa_cons pe_str (pa_cons pe_str (pa_cons pe_str (pa_cons pe_str (pa_cons pe_str (pa_cons pe_str (pa_cons pe_str (pa_cons pe_str pa_nil))))))))) pa_nil))))), ?_⟩
    refine ⟨_, rfl, (by show 8 ≤ sizeLine; decide), fun r nr => ?_⟩
    refine ⟨a, p, r, ns, rightZ.map V.str, rfl, st.same (same_upd nr), SqT.of upd_same, by decide, by decide, fun H' v hv _ st' => ?_⟩
    obtain ⟨z, hz, rfl⟩ := mem_strs hv
    exact q _ z hz st'
theorem ok_law_line (L : Lib P K mg A) : FnOk P w K mg base CX0 4 L.law_line.f L.law_line.fd ["state"] (spZ K lineZ) := by
  have G_law_pick : FnOk P w K mg base CX0 3 L.law_pick.f L.law_pick.fd ["state", "row"] (spPick K) := ok_law_pick L
  refine L.law_line.F.ok sc_law_line (fun vs H Q E h => ?_) (fun cdv A' outer s H vs Q E hr h => ?_)
  · obtain ⟨a, p, ns, rfl, _⟩ := h
    rfl
  · obtain ⟨a, p, ns, rfl, st, q⟩ := h
    refine ⟨_, (pss_one (ps_ret (pe_call G_law_pick (hr.mono (by omega)) (by rfl) L.law_pick.g L.law_pick.F.kp L.law_pick.b .nil pass0 (pa_cons (pv 0) (pa_cons (pe_tup (pa_cons pe_str (pa_cons pe_str (pa_cons pe_str (pa_cons pe_str (pa_cons pe_str (pa_cons pe_str (pa_cons pe_str (pa_cons pe_str (pa_cons pe_str (pa_cons pe_str (pa_cons pe_str (pa_cons pe_str (pa_cons pe_str (pa_cons pe_str (pa_cons pe_str (pa_cons pe_str (pa_cons pe_str (pa_cons pe_str (pa_cons pe_str (pa_cons pe_str (pa_cons pe_str (pa_cons pe_str (pa_cons pe_str (pa_cons pe_str (pa_cons pe_str (pa_cons (pe_op op_add_str pe_str (pe_op op_mul_str pe_str pe_int)) (pa_cons pe_str pa_nil)))))))))))))))))))))))))))) pa_nil))))), ?_⟩
    have e9 : ("const " : Str) ++ Txt.mul "9" 301 = nines := by decide +kernel
    refine ⟨_, rfl, "9", 301, rfl, rfl, ?_, _, _, rfl, rfl, ?_, ?_⟩
    · refine ⟨by decide, fun _ _ => by decide +kernel, fun _ _ => by decide +kernel⟩
    · decide +kernel
    · rw [e9]
      refine ⟨(by show 27 ≤ sizeLine; decide), fun r nr => ?_⟩
      refine ⟨a, p, r, ns, lineZ.map V.str, rfl, st.same (same_upd nr), SqT.of upd_same, by decide, by decide, fun H' v hv _ st' => ?_⟩
      obtain ⟨z, hz, rfl⟩ := mem_strs hv
      exact q _ z hz st'
def spCut (K : PySem.W.Frag) : Sp := fun vs H Q _ => ∃ (a p : Addr) (ns : List Int), vs = [.ref p] ∧ StL K H a p ns ∧ ∀ H' t x at_ b, x.length ≤ 400 → scan 0 x [] = .err at_ b → StL K H' a p ns → H' t = some (.tup [.str (S x), .int (at_ : Nat), .str (msgC b)]) → Q (.ref t) H'
theorem ok_law_cut (L : Lib P K mg A) : FnOk P w K mg base CX0 4 L.law_cut.f L.law_cut.fd ["state"] (spCut K) := by
  have G_law_pick : FnOk P w K mg base CX0 3 L.law_pick.f L.law_pick.fd ["state", "row"] (spPick K) := ok_law_pick L
  have G_law_draw : FnOk P w K mg base CX0 2 L.law_draw.f L.law_draw.fd ["state", "many"] (spDraw K) := ok_law_draw L
  refine L.law_cut.F.ok sc_law_cut (fun vs H Q E h => ?_) (fun cdv A' outer s H vs Q E hr h => ?_)
  · obtain ⟨a, p, ns, rfl, _⟩ := h
    rfl
  · obtain ⟨a, p, ns, rfl, st, q⟩ := h
    refine ⟨_, (pss_cons (ps_set (i := 1) sc_law_cut.nd rfl (.inl rfl) (pe_call G_law_pick (hr.mono (by omega)) (by rfl) L.law_pick.g L.law_pick.F.kp L.law_pick.b .nil pass0 (pa_cons (pv 0) (pa_cons (pe_tup (pa_cons pe_str (pa_cons pe_str (pa_cons pe_str (pa_cons pe_str (pa_cons pe_str pa_nil)))))) pa_nil))))
      (pss_cons (ps_if (pt_cmpR op_eq (pe_call G_law_draw (hr.mono (by omega)) (by rfl) L.law_draw.g L.law_draw.F.kp L.law_draw.b .nil pass0 (pa_cons (pv 0) (pa_cons pe_int pa_nil))) pe_int (nomark _))
        (pss_one (ps_ret (pe_tup (pa_cons (pv 1) (pa_cons (pe_m1 PySem.F.slot_str_find PySem.F.type_str_find mt_find (pv 1) pe_str) (pa_cons pe_str pa_nil))))))
        pss_nil)
      (pss_cons (ps_set (i := 2) sc_law_cut.nd rfl (.inl rfl) (pe_call G_law_pick (hr.mono (by omega)) (by rfl) L.law_pick.g L.law_pick.F.kp L.law_pick.b .nil pass0 (pa_cons (pv 0) (pa_cons (pe_tup (pa_cons pe_str (pa_cons pe_str (pa_cons pe_str (pa_cons pe_str (pa_cons pe_str (pa_cons pe_str (pa_cons pe_str (pa_cons pe_str (pa_cons pe_str (pa_cons pe_str pa_nil))))))))))) pa_nil))))
      (pss_cons (ps_set (i := 3) sc_law_cut.nd rfl (.inl rfl) (pe_call G_law_pick (hr.mono (by omega)) (by rfl) L.law_pick.g L.law_pick.F.kp L.law_pick.b .nil pass0 (pa_cons (pv 0) (pa_cons (pe_tup (pa_cons pe_str (pa_cons pe_str (pa_cons pe_str (pa_cons pe_str pa_nil))))) pa_nil))))
      (pss_one (ps_ret (pe_tup (pa_cons (pe_op op_add_str (pv 3) (pv 2)) (pa_cons (pe_callB call_len_str (by rfl) L.z_len PySem.boot_len (pa_cons (pv 3) pa_nil)) (pa_cons pe_str pa_nil)))))))))), ?_⟩
    refine ⟨_, rfl, (by show 5 ≤ sizeLine; decide), fun r nr => ?_⟩
    refine ⟨a, p, r, ns, cutZ.map V.str, rfl, st.same (same_upd nr), SqT.of upd_same, by decide, by decide, fun H1 v hv _ st1 => ?_⟩
    obtain ⟨z, hz, rfl⟩ := mem_strs hv
    refine ⟨_, rfl, a, p, ns, 2, rfl, st1, by decide, by decide, fun H2 i _ st2 i0 i1 => ?_⟩
    refine ⟨rfl, _, rfl, ite2 (fun e => ?_) (fun e => ?_)⟩
    · obtain ⟨h1, h2⟩ := ck_cut z hz
      have hzl := ck_len z (List.mem_append_right _ hz)
      refine ⟨_, rfl, _, rfl, ⟨_, rfl⟩, _, _, rfl, rfl, (by show 3 ≤ sizeLine; decide), fun t nt => ?_⟩
      refine q _ t (cd z) (Txt.find z "\"").toNat true (by rw [cd_len]; exact hzl) (Sc.err_of h1) (st2.same (same_upd nt)) ?_
      rw [upd_same, S_cd, Int.toNat_of_nonneg h2]
      rfl
    · refine ⟨_, rfl, (by show 10 ≤ sizeLine; decide), fun r2 nr2 => ?_⟩
      refine ⟨a, p, r2, ns, signZ.map V.str, rfl, st2.same (same_upd nr2), SqT.of upd_same, by decide, by decide, fun H3 v3 hv3 _ st3 => ?_⟩
      obtain ⟨y, hy, rfl⟩ := mem_strs hv3
      refine ⟨_, rfl, (by show 4 ≤ sizeLine; decide), fun r3 nr3 => ?_⟩
      refine ⟨a, p, r3, ns, firstZ.map V.str, rfl, st3.same (same_upd nr3), SqT.of upd_same, by decide, by decide, fun H4 v4 hv4 _ st4 => ?_⟩
      obtain ⟨f, hf, rfl⟩ := mem_strs hv4
      obtain ⟨h1, h2⟩ := ck_sign f hf y hy
      have hfl : f.length + y.length ≤ 400 := by rw [← cd_len, ← cd_len, ← List.length_append]; exact h2
      refine ⟨_, rfl, _, rfl, _, _, rfl, rfl, (by rw [sizeLine_eq]; omega), ?_⟩
      refine ⟨_, rfl, f, rfl, str_len (n := 400) (by omega) (by decide), (by show 3 ≤ sizeLine; decide), fun t nt => ?_⟩
      refine q _ t (cd f ++ cd y) (cd f).length false h2 (Sc.err_of h1) (st4.same (same_upd nt)) ?_
      rw [upd_same, ← S_cat, S_cd, S_cd, cd_len]
      rfl
abbrev idxZ (i : Int) : Str := Str.ofString (toString i) ++ ": pop"
theorem ck_index : ∀ m : Nat, m < 6 → ∀ i ∈ ([(m : Int) + 1, (m : Int) + 7, (m : Int) + 2, 0, -1] : List Int), i ≠ (m : Int) → (readS (some m) (scan 0 (cd (idxZ i)) [])).isErr 0 noIndex = true ∧ (scan 0 (cd (idxZ i)) []).isOk = true ∧ (idxZ i).length ≤ 400 := by decide +kernel
def spIdx (K : PySem.W.Frag) : Sp := fun vs H Q _ => ∃ (a p : Addr) (ns : List Int) (m : Nat), vs = [.ref p, .int (m : Int)] ∧ StL K H a p ns ∧ m < 6 ∧ ∀ H' i, i ∈ ([(m : Int) + 1, (m : Int) + 7, (m : Int) + 2, 0, -1] : List Int) → i ≠ (m : Int) → StL K H' a p ns → Q (.str (idxZ i)) H'
theorem ok_law_index (L : Lib P K mg A) : FnOk P w K mg base CX0 4 L.law_index.f L.law_index.fd ["state", "many"] (spIdx K) := by
  have G_law_pick : FnOk P w K mg base CX0 3 L.law_pick.f L.law_pick.fd ["state", "row"] (spPick K) := ok_law_pick L
  refine L.law_index.F.ok sc_law_index (fun vs H Q E h => ?_) (fun cdv A' outer s H vs Q E hr h => ?_)
  · obtain ⟨a, p, ns, m, rfl, _⟩ := h
    rfl
  · obtain ⟨a, p, ns, m, rfl, st, hm, q⟩ := h
    refine ⟨_, (pss_cons (ps_set (i := 2) sc_law_index.nd rfl (.inl rfl) (pe_call G_law_pick (hr.mono (by omega)) (by rfl) L.law_pick.g L.law_pick.F.kp L.law_pick.b .nil pass0 (pa_cons (pv 0) (pa_cons (pe_tup (pa_cons (pe_op op_add (pv 1) pe_int) (pa_cons (pe_op op_add (pv 1) pe_int) (pa_cons pe_int (pa_cons (pe_un un_neg pe_int) pa_nil))))) pa_nil))))
      (pss_cons (ps_if (pt_cmpR op_eq (pv 2) (pv 1) (nomark _))
        (pss_one (ps_set (i := 2) sc_law_index.nd rfl (.inl rfl) (pe_op op_add (pv 1) pe_int)))
        pss_nil)
      (pss_one (ps_ret (pe_op op_add_str (pe_callTy call_str_int (by rfl) L.z_str (by decide +kernel) (pa_cons (pv 2) pa_nil)) pe_str))))), ?_⟩
    refine ⟨_, rfl, _, rfl, _, _, rfl, rfl, _, rfl, _, _, rfl, rfl, _, rfl, (by show 4 ≤ sizeLine; decide), fun r nr => ?_⟩
    refine ⟨a, p, r, ns, [.int ((m : Int) + 1), .int ((m : Int) + 7), .int 0, .int (-1)], rfl, st.same (same_upd nr), SqT.of upd_same, (by show 0 < 4; decide), (by show 4 ≤ 100; decide), fun H1 v hv _ st1 => ?_⟩
    obtain ⟨i, hi, rfl⟩ : ∃ i : Int, i ∈ ([(m : Int) + 1, (m : Int) + 7, 0, -1] : List Int) ∧ v = .int i := by
      simp only [List.mem_cons, List.not_mem_nil, or_false] at hv
      rcases hv with rfl | rfl | rfl | rfl
      · exact ⟨_, by simp, rfl⟩
      · exact ⟨_, by simp, rfl⟩
      · exact ⟨_, by simp, rfl⟩
      · exact ⟨_, by simp, rfl⟩
    have fin : ∀ j : Int, j ∈ ([(m : Int) + 1, (m : Int) + 7, (m : Int) + 2, 0, -1] : List Int) → j ≠ (m : Int) → j.natAbs.log2 < 1920 ∧ (Str.ofString (toString j)).length + (": pop" : Str).length ≤ sizeLine := fun j hj hn => by
      constructor
      · have hb : j.natAbs ≤ 1000000 := by
          simp only [List.mem_cons, List.not_mem_nil, or_false] at hj
          omega
        have := log_at hb
        simpa using this
      · have := (ck_index m hm j hj hn).2.2
        rw [Str.length_append] at this
        rw [sizeLine_eq]
        omega
    refine ⟨_, rfl, _, rfl, rfl, _, rfl, ite2 (fun e => ?_) (fun e => ?_)⟩
    · have hj : (m : Int) + 2 ∈ ([(m : Int) + 1, (m : Int) + 7, (m : Int) + 2, 0, -1] : List Int) := by simp
      have hn : (m : Int) + 2 ≠ (m : Int) := by omega
      obtain ⟨f1, f2⟩ := fin _ hj hn
      refine ⟨_, rfl, _, _, rfl, rfl, ?_⟩
      exact ⟨_, rfl, _, rfl, f1, _, _, rfl, rfl, f2, q _ _ hj hn st1⟩
    · have hj : i ∈ ([(m : Int) + 1, (m : Int) + 7, (m : Int) + 2, 0, -1] : List Int) := by
        simp only [List.mem_cons, List.not_mem_nil, or_false] at hi ⊢
        omega
      have hn : i ≠ (m : Int) := fun z => e (decide_eq_true (by rw [z]))
      obtain ⟨f1, f2⟩ := fin _ hj hn
      exact ⟨_, rfl, _, rfl, f1, _, _, rfl, rfl, f2, q _ _ hj hn st1⟩
end
end My
/-! ### law -/
namespace My
open PySem L2 SX XT XS XE
open C8 (pss_cut tCut cutS_slice pe_gc)
local macro_rules | `(tactic| walk_at "sz") => `(tactic| first | assumption | (simp only [S_len, List.length_append, List.length_cons, List.length_nil] <;> omega))
def layS (m : Str) : Bool := PyData.strOk m
theorem lay_msgs : layS notClosed = true ∧ layS notHere = true ∧ layS noFun = true ∧ layS noIndex = true ∧ layS noLine = true := by decide +kernel
theorem told_eq {a : Int} {m : Str} (hm : layS m = true) : SeqAt.shaped (.tuple [.int a, .str m, .bool true]) = true ∧ PyData.eqv (.tuple [.int a, .str m, .bool true]) (.tuple [.int a, .str m, .bool true]) = true := by
  have hl : PyData.strOk m = true := hm
  refine ⟨by simp [SeqAt.shaped, PyData.canLay0, PyData.canLayAll0, PyData.depth, PyData.depthAll, hl], ?_⟩
  rw [show PyData.eqv (.tuple [.int a, .str m, .bool true]) (.tuple [.int a, .str m, .bool true]) = PyData.eqvAll [.int a, .str m, .bool true] [.int a, .str m, .bool true] by unfold PyData.eqv; rfl]
  simp [PyData.eqvAll, PyData.eqv]
theorem dp_told {K : PySem.W.Frag} {H : Hp} {t : Addr} {a : Int} {m : Str} (h : H t = some (.tup [.int a, .str m, .bl true])) : Dp K H (.ref t) (.tuple [.int a, .str m, .bool true]) := .tup (.inl (.inl h)) (.cons (.int a) (.cons (.str m) (.cons (.bl true) .nil)))
section
variable {P : Program} {w : World} {K : PySem.W.Frag} {mg : Str → Option Value} {base : Heap} {A : Ads}
def spIsI : Sp := fun vs H Q _ => ∃ i : Int, vs = [.int i] ∧ Q (.bl true) H
theorem ok_law_is_integer (L : Lib P K mg A) : FnOk P w K mg base CX0 1 L.law_is_integer.f L.law_is_integer.fd ["told"] spIsI := by
  refine L.law_is_integer.F.ok sc_law_is_integer (fun vs H Q E h => ?_) (fun cdv A' outer s H vs Q E hr h => ?_)
  · obtain ⟨i, rfl, _⟩ := h
    rfl
  · obtain ⟨i, rfl, q⟩ := h
    refine ⟨_, (pss_one (ps_ret (pe_and (pe_callB call_isi (by rfl) L.z_isinstance (by decide +kernel) (pa_cons (pv 0) (pa_cons (pe_bltn (v := .ty "int") (by rfl) L.z_int (by decide +kernel) rfl) pa_nil))) (pe_one (pe_not (pe_callB call_isi (by rfl) L.z_isinstance (by decide +kernel) (pa_cons (pv 0) (pa_cons (pe_bltn (v := .ty "bool") (by rfl) L.z_bool (by decide +kernel) rfl) pa_nil)))))))), ?_⟩
    refine ⟨_, rfl, _, .ty "int", _, _, true, rfl, .ty _, .base (.int _), kit_ty (show kitB "int" "int" = some true by decide +kernel), _, rfl, iteT ?_⟩
    exact ⟨_, rfl, _, .ty "bool", _, _, false, rfl, .ty _, .base (.int _), kit_ty (show kitB "int" "bool" = some false by decide +kernel), _, rfl, q⟩
/-- a wrong line: what stands before it in the text comes to st -/
def Wrong (st : Option Nat) (kind : Int) (x : List Nat) (at_ : Nat) (m : Str) : Prop := x.length ≤ 400 ∧ layS m = true ∧ ((kind = 0 ∧ ∃ b, m = msgC b ∧ scan 0 x [] = .err at_ b) ∨ (0 < kind ∧ at_ = 0 ∧ readS st (scan 0 x []) = .err 0 m ∧ ∃ ls, scan 0 x [] = .ok ls))
theorem Wrong.behind {st : Option Nat} {kind : Int} {x : List Nat} {at_ : Nat} {m : Str} (h : Wrong st kind x at_ m) {z : Str} (hz : z ∈ behindZ) : readS st (scan 0 (x ++ cd z) []) = .err at_ m := by
  have e0 : readS st (scan 0 x []) = .err at_ m := by
    rcases h.2.2 with ⟨_, b, rfl, e⟩ | ⟨_, rfl, e, _⟩
    · rw [e]
      rfl
    · exact e
  rcases ck_behind z hz with rfl | ⟨y, ms, e, hy⟩
  · rw [show cd "" = [] by decide +kernel, List.append_nil]
    exact e0
  · rw [e]
    exact behind_err e0 hy
theorem S_cd_app (a b : Str) : S (cd a ++ cd b) = a ++ b := by rw [← S_cat, S_cd, S_cd]
theorem len13 : ("function 0 0\n" : Str).length = 13 := by decide +kernel
theorem cat4 (l x : List Nat) (g b : Str) : S l ++ g ++ S x ++ b = S (l ++ (cd g ++ (x ++ cd b))) := by
  have e1 : S l ++ S (cd g) ++ S x ++ S (cd b) = S (l ++ (cd g ++ (x ++ cd b))) := by
    rw [S_cat, S_cat, S_cat, List.append_assoc, List.append_assoc]
  rw [S_cd, S_cd] at e1
  exact e1
abbrev gapZ : List Str := ["", "  ", "\n "]
abbrev headZ : List Str := ["", " ", "\n"]
abbrev spZ2 : List Str := ["", "  "]
abbrev tlZ : List Str := ["\n", " ; \"\n"]
theorem head_pre {z : Str} (hz : z ∈ headZ) : PreS (cd z ++ cd "function 0 0\n") (some 0) ∧ z.length ≤ 10 := by
  have e : cd "function 0 0\n" = cd "function 0 0" ++ [10] := by decide +kernel
  have h1 : PreS ([] ++ (([] ++ cd "function 0 0") ++ [10])) (some 0) := PreS.nil.line (Rl.ok_of (ck_head [] (by decide)))
  have h2 : PreS ([] ++ (([32] ++ cd "function 0 0") ++ [10])) (some 0) := PreS.nil.line (Rl.ok_of (ck_head [32] (by decide)))
  have h3 : PreS (([] ++ ([] ++ [10])) ++ (([] ++ cd "function 0 0") ++ [10])) (some 0) := (PreS.nil.line (g := []) (st' := none) rfl).line (Rl.ok_of (ck_head [] (by decide)))
  simp only [headZ, List.mem_cons, List.not_mem_nil, or_false] at hz
  rw [e]
  rcases hz with rfl | rfl | rfl
  · exact ⟨h1, by decide +kernel⟩
  · exact ⟨h2, by decide +kernel⟩
  · exact ⟨h3, by decide +kernel⟩
theorem body_pre {l : List Nat} {j : Nat} {sp z tl : Str} (h : PreS l (some j)) (hj : j < 6) (hs : sp ∈ spZ2) (hz : z ∈ rightZ) (ht : tl ∈ tlZ) : PreS (((l ++ cd sp) ++ cd z) ++ cd tl) (some (j + 1)) ∧ sp.length ≤ 10 ∧ z.length ≤ 400 ∧ tl.length ≤ 10 := by
  have hs' : cd sp ∈ ([[], [32, 32]] : List (List Nat)) ∧ sp.length ≤ 10 := (by decide +kernel : ∀ sp ∈ spZ2, cd sp ∈ ([[], [32, 32]] : List (List Nat)) ∧ sp.length ≤ 10) sp hs
  have ht' : (∃ g ∈ ([[], [32, 59, 32, 34]] : List (List Nat)), cd tl = g ++ [10]) ∧ tl.length ≤ 10 := (by decide +kernel : ∀ tl ∈ tlZ, (∃ g ∈ ([[], [32, 59, 32, 34]] : List (List Nat)), cd tl = g ++ [10]) ∧ tl.length ≤ 10) tl ht
  obtain ⟨⟨g, hg, e⟩, t2⟩ := ht'
  have := h.line (Rl.ok_of (ck_right z hz j hj (cd sp) hs'.1 g hg))
  refine ⟨?_, hs'.2, ck_len z (List.mem_append_left _ (List.mem_append_left _ hz)), t2⟩
  rw [e]
  simpa [List.append_assoc] using this
def spLaw (K : PySem.W.Frag) : Sp := fun vs H Q _ => ∃ (a : Addr) (ns : List Int), vs = [.ref a] ∧ SqL K H a (ns.map V.int) ∧ ns.length ≤ 63 ∧ ∀ H', Q (.bl true) H'
theorem ok_law {f : Addr} {fd : FuncData} (F : Fun K "law" "law" s_law f fd) (L : Lib P K mg A) (D : Dd K w mg A) : FnOk P w K mg base CX0 11 f fd ["script"] (spLaw K) := by
  have G_law_begin : FnOk P w K mg base CX0 1 L.law_begin.f L.law_begin.fd ["script", "k"] (spBegin K) := ok_law_begin L
  have G_law_draw : FnOk P w K mg base CX0 2 L.law_draw.f L.law_draw.fd ["state", "many"] (spDraw K) := ok_law_draw L
  have G_law_pick : FnOk P w K mg base CX0 3 L.law_pick.f L.law_pick.fd ["state", "row"] (spPick K) := ok_law_pick L
  have G_law_right : FnOk P w K mg base CX0 4 L.law_right.f L.law_right.fd ["state"] (spZ K rightZ) := ok_law_right L
  have G_law_line : FnOk P w K mg base CX0 4 L.law_line.f L.law_line.fd ["state"] (spZ K lineZ) := ok_law_line L
  have G_law_cut : FnOk P w K mg base CX0 4 L.law_cut.f L.law_cut.fd ["state"] (spCut K) := ok_law_cut L
  have G_law_index : FnOk P w K mg base CX0 4 L.law_index.f L.law_index.fd ["state", "many"] (spIdx K) := ok_law_index L
  have G_law_told : FnOk P w K mg base CX0 9 L.law_told.f L.law_told.fd ["text"] spTd := ok_law_told L D
  have G_law_is_integer : FnOk P w K mg base CX0 1 L.law_is_integer.f L.law_is_integer.fd ["told"] spIsI := ok_law_is_integer L
  refine F.ok sc_law (fun vs H Q E h => ?_) (fun cdv A' outer s H vs Q E hr h => ?_)
  · obtain ⟨a, ns, rfl, _⟩ := h
    rfl
  · obtain ⟨sa, ns, rfl, hS, hn, q⟩ := h
    have hz := sizeLine_eq
    refine ⟨_, (pss_cons (ps_for PassesOwn.never rfl (pi_range1 (by rfl) L.z_range (pa_cons (pe_callB (call_min2 rfl) (by rfl) L.z_min (by decide +kernel) (pa_cons pe_int (pa_cons (pe_callB (call_max2 rfl) (by rfl) L.z_max (by decide +kernel) (pa_cons pe_int (pa_cons (pe_callB call_len_seq (by rfl) L.z_len PySem.boot_len (pa_cons (pv 0) pa_nil)) pa_nil))) pa_nil))) pa_nil)) (pg_name (i := 1) sc_law.nd rfl (.inl rfl))
        (pss_cons (ps_set (i := 2) sc_law.nd rfl (.inl rfl) (pe_call G_law_begin (hr.mono (by omega)) (by rfl) L.law_begin.g L.law_begin.F.kp L.law_begin.b .nil pass0 (pa_cons (pv 0) (pa_cons (pe_op op_mul pe_int (pv 1)) pa_nil))))
      (pss_cons (ps_set (i := 3) sc_law.nd rfl (.inl rfl) pe_str)
      (pss_cons (ps_set (i := 4) sc_law.nd rfl (.inl rfl) (pe_call G_law_draw (hr.mono (by omega)) (by rfl) L.law_draw.g L.law_draw.F.kp L.law_draw.b .nil pass0 (pa_cons (pv 2) (pa_cons pe_int pa_nil))))
      (pss_cons (ps_set (i := 5) sc_law.nd rfl (.inl rfl) (pe_cmpR op_gt (pe_call G_law_draw (hr.mono (by omega)) (by rfl) L.law_draw.g L.law_draw.F.kp L.law_draw.b .nil pass0 (pa_cons (pv 2) (pa_cons pe_int pa_nil))) pe_int (nomark _)))
      (pss_cut (ps_if (pt_val (pv 5))
        (pss_cons (ps_set (i := 3) sc_law.nd rfl (.inl rfl) (pe_op op_add_str (pe_call G_law_pick (hr.mono (by omega)) (by rfl) L.law_pick.g L.law_pick.F.kp L.law_pick.b .nil pass0 (pa_cons (pv 2) (pa_cons (pe_tup (pa_cons pe_str (pa_cons pe_str (pa_cons pe_str pa_nil)))) pa_nil))) pe_str))
      (pss_one (ps_for PassesOwn.never rfl (pi_range1 (by rfl) L.z_range (pa_cons (pv 4) pa_nil)) (pg_name (i := 6) sc_law.nd rfl (.inl rfl))
        (pss_one (ps_set (i := 3) sc_law.nd rfl (.inl rfl) (pe_op op_add_str (pe_op op_add_str (pe_op op_add_str (pv 3) (pe_call G_law_pick (hr.mono (by omega)) (by rfl) L.law_pick.g L.law_pick.F.kp L.law_pick.b .nil pass0 (pa_cons (pv 2) (pa_cons (pe_tup (pa_cons pe_str (pa_cons pe_str pa_nil))) pa_nil)))) (pe_call G_law_right (hr.mono (by omega)) (by rfl) L.law_right.g L.law_right.F.kp L.law_right.b .nil pass0 (pa_cons (pv 2) pa_nil))) (pe_call G_law_pick (hr.mono (by omega)) (by rfl) L.law_pick.g L.law_pick.F.kp L.law_pick.b .nil pass0 (pa_cons (pv 2) (pa_cons (pe_tup (pa_cons pe_str (pa_cons pe_str pa_nil))) pa_nil)))))))))
        pss_nil)
      (pss_cons (ps_if (pt_cmpR op_notN (pe_call G_law_told (hr.mono (by omega)) (by rfl) L.law_told.g L.law_told.F.kp L.law_told.b .nil pass0 (pa_cons (pv 3) pa_nil)) pe_non (nomark _))
        (pss_one (ps_ret pe_bl))
        pss_nil)
      (pss_cons (ps_set (i := 7) sc_law.nd rfl (.inl rfl) (pe_call G_law_pick (hr.mono (by omega)) (by rfl) L.law_pick.g L.law_pick.F.kp L.law_pick.b .nil pass0 (pa_cons (pv 2) (pa_cons (pe_tup (pa_cons pe_str (pa_cons pe_str (pa_cons pe_str pa_nil)))) pa_nil))))
      (pss_cons (ps_set (i := 8) sc_law.nd rfl (.inl rfl) (pe_op op_add (pe_callB call_len_str (by rfl) L.z_len PySem.boot_len (pa_cons (pv 3) pa_nil)) (pe_callB call_len_str (by rfl) L.z_len PySem.boot_len (pa_cons (pv 7) pa_nil))))
      (pss_cons (ps_set (i := 9) sc_law.nd rfl (.inl rfl) (pe_call G_law_draw (hr.mono (by omega)) (by rfl) L.law_draw.g L.law_draw.F.kp L.law_draw.b .nil pass0 (pa_cons (pv 2) (pa_cons pe_int pa_nil))))
      (pss_cons (ps_set (i := 10) sc_law.nd rfl (.inl rfl) (pe_call G_law_pick (hr.mono (by omega)) (by rfl) L.law_pick.g L.law_pick.F.kp L.law_pick.b .nil pass0 (pa_cons (pv 2) (pa_cons (pe_tup (pa_cons pe_str (pa_cons pe_str (pa_cons pe_str (pa_cons pe_str pa_nil))))) pa_nil))))
      (pss_cut (ps_if (pt_cmpR op_eq (pv 9) pe_int (nomark _))
        (pss_cons (ps_asg (pe_call G_law_cut (hr.mono (by omega)) (by rfl) L.law_cut.g L.law_cut.F.kp L.law_cut.b .nil pass0 (pa_cons (pv 2) pa_nil)) (pg_tup (by rfl) (pgs_cons (pg_name (i := 11) sc_law.nd rfl (.inl rfl)) (pgs_cons (pg_name (i := 12) sc_law.nd rfl (.inl rfl)) (pgs_cons (pg_name (i := 13) sc_law.nd rfl (.inl rfl)) pgs_nil)))))
      (pss_one (ps_set (i := 8) sc_law.nd rfl (.inl rfl) (pe_op op_add (pv 8) (pv 12)))))
        (pss_one (ps_if (PW.pt (pw_and (pt_not (pt_val (pv 5))) (pw_and1 (pt_cmpR op_eq (pv 9) pe_int (nomark _)))))
        (pss_cons (ps_set (i := 11) sc_law.nd rfl (.inl rfl) (pe_call G_law_right (hr.mono (by omega)) (by rfl) L.law_right.g L.law_right.F.kp L.law_right.b .nil pass0 (pa_cons (pv 2) pa_nil)))
      (pss_one (ps_set (i := 13) sc_law.nd rfl (.inl rfl) pe_str)))
        (pss_one (ps_if (PW.pt (pw_and (pt_cmpR op_eq (pv 9) pe_int (nomark _)) (pw_and1 (pt_val (pv 5)))))
        (pss_cons (ps_set (i := 11) sc_law.nd rfl (.inl rfl) (pe_call G_law_index (hr.mono (by omega)) (by rfl) L.law_index.g L.law_index.F.kp L.law_index.b .nil pass0 (pa_cons (pv 2) (pa_cons (pv 4) pa_nil))))
      (pss_one (ps_set (i := 13) sc_law.nd rfl (.inl rfl) pe_str)))
        (pss_cons (ps_set (i := 11) sc_law.nd rfl (.inl rfl) (pe_call G_law_line (hr.mono (by omega)) (by rfl) L.law_line.g L.law_line.F.kp L.law_line.b .nil pass0 (pa_cons (pv 2) pa_nil)))
      (pss_one (ps_set (i := 13) sc_law.nd rfl (.inl rfl) pe_str))))))))
      (pss_cons (ps_set (i := 14) sc_law.nd rfl (.inl rfl) (pe_call G_law_told (hr.mono (by omega)) (by rfl) L.law_told.g L.law_told.F.kp L.law_told.b .nil pass0 (pa_cons (pe_op op_add_str (pe_op op_add_str (pe_op op_add_str (pv 3) (pv 7)) (pv 11)) (pv 10)) pa_nil)))
      (pss_cons (ps_if (PW.pt (pw_or (pt_cmpR (op_neD (units64 hr)) (pv 14) (pe_tup (pa_cons (pv 8) (pa_cons (pv 13) (pa_cons pe_bl pa_nil)))) (nomark _)) (pw_or1 (pt_not (pt_val (pe_call G_law_is_integer (hr.mono (by omega)) (by rfl) L.law_is_integer.g L.law_is_integer.F.kp L.law_is_integer.b .nil pass0 (pa_cons (pe_ix ix_tup (pv 14) pe_int (fun _ _ => rfl)) pa_nil)))))))
        (pss_one (ps_ret pe_bl))
        pss_nil)
      (pss_one (ps_if (PW.pt (pw_and (pt_cmpR op_gt (pv 9) pe_int (nomark _)) (pw_and1 (pt_cmpR (op_neD (units64 hr)) (pe_call G_law_told (hr.mono (by omega)) (by rfl) L.law_told.g L.law_told.F.kp L.law_told.b .nil pass0 (pa_cons (pe_op op_add_str (pe_op op_add_str (pe_op op_add_str (pv 3) (pv 7)) (pv 11)) pe_str) pa_nil)) (pe_tup (pa_cons (pe_op op_add (pe_callB call_len_str (by rfl) L.z_len PySem.boot_len (pa_cons (pe_op op_add_str (pe_op op_add_str (pv 3) (pv 7)) (pv 11)) pa_nil)) pe_int) (pa_cons pe_str (pa_cons pe_bl pa_nil)))) (nomark _)))))
        (pss_one (ps_ret pe_bl))
        pss_nil))))))))))))))))
      (pss_one (ps_ret pe_bl))), ?_⟩
    refine ⟨_, rfl, sa, _, rfl, .inl hS, _, _, rfl, ?_⟩
    refine ⟨_, _, rfl, _, rfl, ?_, ?_, for_range (fun i σ H' => ∃ y1 y2 y3 y4 y5 y6 y7 y8 y9 y10 y11 y12 y13 y14 : Option V, σ = [some (.ref sa), y1, y2, y3, y4, y5, y6, y7, y8, y9, y10, y11, y12, y13, y14] ∧ SqL K H' sa (ns.map V.int)) ⟨none, none, none, none, none, none, none, none, none, none, none, none, none, none, rfl, hS⟩ ?_ ?_⟩
    · (repeat' split) <;> omega
    · (repeat' split) <;> omega
    · rintro i σ H1 hi ⟨y1, y2, y3, y4, y5, y6, y7, y8, y9, y10, y11, y12, y13, y14, rfl, hS1⟩
      have hi6 : i < 6 := by
        revert hi
        (repeat' split) <;> omega
      have hcm : CMul 3 (0 + (i : Int)) := Or.inl ⟨by decide, by decide⟩
      refine ⟨_, rfl, _, rfl, _, _, rfl, rfl, hcm, sa, ns, _, rfl, hS1, (by omega), fun H2 p _ s2 st2 => ?_⟩
      refine ⟨_, rfl, sa, p, ns, 6, rfl, st2, by decide, by decide, fun H3 mz _ st3 m0 m1 => ?_⟩
      refine ⟨_, rfl, sa, p, ns, 4, rfl, st3, by decide, by decide, fun H4 bz _ st4 b0 b1 => ?_⟩
      obtain ⟨m, rfl⟩ : ∃ m : Nat, mz = (m : Int) := ⟨mz.toNat, by omega⟩
      have hm : m < 6 := by omega
      refine ⟨_, _, rfl, rfl, ?_⟩
      refine ⟨fun σ' H' => ∃ (l : List Nat) (y6 : Option V), σ' = [some (.ref sa), some (.int (0 + i)), some (.ref p), some (.str (S l)), some (.int (m : Int)), some (.bl (decide ((0 : Int) < bz))), y6, y7, y8, y9, y10, y11, y12, y13, y14] ∧ StL K H' sa p ns ∧ PreS l (if decide ((0 : Int) < bz) = true then some m else none) ∧ l.length ≤ 4000, ?_, ?_⟩
      · refine ⟨_, rfl, _, rfl, ite2 (fun hb => ?_) (fun hb => ?_)⟩
        · refine ⟨_, rfl, (by show 3 ≤ sizeLine; decide), fun r nr => ?_⟩
          refine ⟨sa, p, r, ns, headZ.map V.str, rfl, st4.same (same_upd nr), SqT.of upd_same, by decide, by decide, fun H5 v hv _ st5 => ?_⟩
          obtain ⟨z, hz5, rfl⟩ := mem_strs hv
          obtain ⟨hp0, hl0⟩ := head_pre hz5
          refine ⟨_, _, rfl, rfl, (by rw [sizeLine_eq, len13]; omega), ?_⟩
          refine ⟨_, rfl, _, rfl, by omega, by omega, for_range (fun j σ H' => ∃ (l : List Nat) (y6 : Option V), σ = [some (.ref sa), some (.int (0 + i)), some (.ref p), some (.str (S l)), some (.int (m : Int)), some (.bl (decide ((0 : Int) < bz))), y6, y7, y8, y9, y10, y11, y12, y13, y14] ∧ StL K H' sa p ns ∧ PreS l (some j) ∧ l.length ≤ 100 + 500 * j) ⟨cd z ++ cd "function 0 0\n", y6, ?_, st5, hp0, ?_⟩ ?_ ?_⟩
          · rw [S_cd_app]
            rfl
          · rw [List.length_append, cd_len, cd_len]
            rw [len13]
            omega
          · rintro j σ H6 hj ⟨l, y6', rfl, st6, hp6, hl6⟩
            refine ⟨_, rfl, _, rfl, (by show 2 ≤ sizeLine; decide), fun r2 nr2 => ?_⟩
            refine ⟨sa, p, r2, ns, spZ2.map V.str, rfl, st6.same (same_upd nr2), SqT.of upd_same, by decide, by decide, fun H7 v7 hv7 _ st7 => ?_⟩
            obtain ⟨s7, hs7, rfl⟩ := mem_strs hv7
            have hs7l : s7.length ≤ 10 := (by decide +kernel : ∀ s ∈ spZ2, s.length ≤ 10) s7 hs7
            refine ⟨_, _, rfl, rfl, (by rw [sizeLine_eq, S_len]; omega), ?_⟩
            refine ⟨_, rfl, sa, p, ns, rfl, st7, fun H8 z8 hz8 st8 => ?_⟩
            have hz8l := ck_len z8 (List.mem_append_left _ (List.mem_append_left _ hz8))
            refine ⟨_, _, rfl, rfl, (by rw [sizeLine_eq, Str.length_append, S_len]; omega), ?_⟩
            refine ⟨_, rfl, (by show 2 ≤ sizeLine; decide), fun r3 nr3 => ?_⟩
            refine ⟨sa, p, r3, ns, tlZ.map V.str, rfl, st8.same (same_upd nr3), SqT.of upd_same, by decide, by decide, fun H9 v9 hv9 _ st9 => ?_⟩
            obtain ⟨t9, ht9, rfl⟩ := mem_strs hv9
            obtain ⟨b1, b2, b3, b4⟩ := body_pre hp6 (by omega) hs7 hz8 ht9
            refine ⟨_, _, rfl, rfl, (by rw [sizeLine_eq, Str.length_append, Str.length_append, S_len]; omega), ?_⟩
            refine ⟨((l ++ cd s7) ++ cd z8) ++ cd t9, some (.int (0 + j)), ?_, st9, b1, ?_⟩
            · rw [← S_cat, ← S_cat, ← S_cat, S_cd, S_cd, S_cd]
              rfl
            · rw [List.length_append, List.length_append, List.length_append, cd_len, cd_len, cd_len]
              omega
          · rintro σ H6 ⟨l, y6', rfl, st6, hp6, hl6⟩
            refine ⟨l, y6', rfl, st6, ?_, by omega⟩
            rw [if_pos hb]
            exact hp6
        · refine ⟨[], _, rfl, st4, ?_, Nat.zero_le _⟩
          rw [if_neg hb]
          exact PreS.nil
      · rintro σ H5 ⟨l, y6', rfl, st5, hp5, hl5⟩
        generalize hst : (if decide ((0 : Int) < bz) = true then some m else none) = st at hp5
        -- if _law_told(text) is not None
        refine ⟨_, rfl, l, rfl, (by omega), (by rw [hp5.done]; exact fun h => by cases h), fun _ _ H6 s6 => ?_, fun a m e => (by rw [hp5.done] at e; cases e)⟩
        refine ⟨rfl, _, rfl, ifF rfl ?_⟩
        -- gap
        refine ⟨_, rfl, (by show 3 ≤ sizeLine; decide), fun r nr => ?_⟩
        refine ⟨sa, p, r, ns, gapZ.map V.str, rfl, (st5.same s6).same (same_upd nr), SqT.of upd_same, by decide, by decide, fun H7 v7 hv7 _ st7 => ?_⟩
        obtain ⟨g, hg, rfl⟩ := mem_strs hv7
        obtain ⟨hg1, hg2⟩ := (by decide +kernel : ∀ s ∈ gapZ, cd s ∈ gaps ∧ s.length ≤ 10) g hg
        -- place
        refine ⟨_, rfl, S l, rfl, (by rw [S_len, sizeLine_eq]; omega), _, rfl, g, rfl, (by rw [sizeLine_eq]; omega), _, _, rfl, rfl, ?_⟩
        -- kind, behind
        refine ⟨_, rfl, sa, p, ns, 4, rfl, st7, by decide, by decide, fun H8 kd _ st8 k0 k1 => ?_⟩
        refine ⟨_, rfl, (by show 4 ≤ sizeLine; decide), fun r nr => ?_⟩
        refine ⟨sa, p, r, ns, behindZ.map V.str, rfl, st8.same (same_upd nr), SqT.of upd_same, by decide, by decide, fun H9 v9 hv9 _ st9 => ?_⟩
        obtain ⟨bh, hbh, rfl⟩ := mem_strs hv9
        have hbl := (by decide +kernel : ∀ s ∈ behindZ, s.length ≤ 20) bh hbh
        have hkl : ∀ k < 6, (if decide ((0 : Int) < bz) = true then some k else none) = stOf (if decide ((0 : Int) < bz) = true then k + 1 else 0) := fun k _ => by split <;> rfl
        refine ⟨fun σ' H' => ∃ (x : List Nat) (at_ : Nat) (msg : Str) (pl : Int) (y12 : Option V), σ' = [some (.ref sa), some (.int (0 + i)), some (.ref p), some (.str (S l)), some (.int (m : Int)), some (.bl (decide ((0 : Int) < bz))), y6', some (.str g), some (.int pl), some (.int kd), some (.str bh), some (.str (S x)), y12, some (.str msg), y14] ∧ StL K H' sa p ns ∧ Wrong st kd x at_ msg ∧ pl = (l.length : Int) + g.length + at_, ?_, ?_⟩
        · refine ⟨_, rfl, rfl, _, rfl, ite2 (fun hk => ?_) (fun hk => ?_)⟩
          · have hk0 : kd = 0 := V.int.inj (of_decide_eq_true hk)
            refine ⟨_, rfl, sa, p, ns, rfl, st9, fun H10 t x at_ b hx hsc st10 et => ?_⟩
            refine ⟨t, _, rfl, SqT.of et, rfl, _, _, rfl, _, _, rfl, _, _, rfl, rfl, ?_⟩
            refine ⟨_, rfl, _, rfl, _, _, rfl, rfl, x, at_, msgC b, _, _, rfl, st10, ⟨hx, ?_, .inl ⟨hk0, b, rfl, hsc⟩⟩, ?_⟩
            · cases b
              · exact lay_msgs.2.1
              · exact lay_msgs.1
            · rw [S_len]
          · have hk0 : ¬ kd = 0 := fun z => hk (decide_eq_true (by rw [z]))
            have hkp : 0 < kd := by omega
            by_cases hb : decide ((0 : Int) < bz) = true
            · rw [if_pos hb] at hst
              refine ⟨_, rfl, _, rfl, ifF (by rw [hb]; rfl) (ifF rfl ?_)⟩
              refine ⟨_, rfl, rfl, _, rfl, ite2 (fun hk2 => ?_) (fun hk2 => ?_)⟩
              · refine ⟨_, rfl, _, rfl, ifT hb ?_⟩
                refine ⟨_, rfl, _, rfl, sa, p, ns, m, rfl, st9, hm, fun H10 j hj hjm st10 => ?_⟩
                obtain ⟨e1, e2, e3⟩ := ck_index m hm j hj hjm
                exact ⟨cd (idxZ j), 0, noIndex, _, y12, (by rw [S_cd]; rfl), st10, ⟨by rw [cd_len]; exact e3, lay_msgs.2.2.2.1, .inr ⟨hkp, rfl, by rw [← hst]; exact Rl.err_of e1, Sc.ok_of e2⟩⟩, by rw [S_len]; omega⟩
              · refine ifF rfl ?_
                refine ⟨_, rfl, sa, p, ns, rfl, st9, fun H10 z hz10 st10 => ?_⟩
                obtain ⟨e1, e2⟩ := ck_line z hz10 (m + 1) (by omega)
                have hzl := ck_len z (List.mem_append_left _ (List.mem_append_right _ hz10))
                exact ⟨cd z, 0, noLine, _, y12, (by rw [S_cd]; rfl), st10, ⟨by rw [cd_len]; exact hzl, lay_msgs.2.2.2.2, .inr ⟨hkp, rfl, by rw [← hst]; exact Rl.err_of e1, Sc.ok_of e2⟩⟩, by rw [S_len]; omega⟩
            · rw [if_neg hb] at hst
              refine ⟨_, rfl, _, rfl, ifT (by rw [Bool.not_eq_true] at hb; rw [hb]; rfl) ?_⟩
              refine ⟨_, rfl, rfl, _, rfl, ite2 (fun hk1 => ?_) (fun hk1 => ?_)⟩
              · refine ⟨_, rfl, sa, p, ns, rfl, st9, fun H10 z hz10 st10 => ?_⟩
                obtain ⟨e1, e2⟩ := ck_none z hz10
                have hzl := ck_len z (List.mem_append_left _ (List.mem_append_left _ hz10))
                exact ⟨cd z, 0, noFun, _, y12, (by rw [S_cd]; rfl), st10, ⟨by rw [cd_len]; exact hzl, lay_msgs.2.2.1, .inr ⟨hkp, rfl, by rw [← hst]; exact Rl.err_of e1, Sc.ok_of e2⟩⟩, by rw [S_len]; omega⟩
              · refine ⟨_, rfl, rfl, _, rfl, ite2 (fun hk2 => ?_) (fun hk2 => ?_)⟩
                · refine ⟨_, rfl, _, rfl, ifF (by rw [Bool.not_eq_true] at hb; exact hb) ?_⟩
                  refine ⟨_, rfl, sa, p, ns, rfl, st9, fun H10 z hz10 st10 => ?_⟩
                  obtain ⟨e1, e2⟩ := ck_line z hz10 0 (by omega)
                  have hzl := ck_len z (List.mem_append_left _ (List.mem_append_right _ hz10))
                  exact ⟨cd z, 0, noLine, _, y12, (by rw [S_cd]; rfl), st10, ⟨by rw [cd_len]; exact hzl, lay_msgs.2.2.2.2, .inr ⟨hkp, rfl, by rw [← hst]; exact Rl.err_of e1, Sc.ok_of e2⟩⟩, by rw [S_len]; omega⟩
                · refine ifF rfl ?_
                  refine ⟨_, rfl, sa, p, ns, rfl, st9, fun H10 z hz10 st10 => ?_⟩
                  obtain ⟨e1, e2⟩ := ck_line z hz10 0 (by omega)
                  have hzl := ck_len z (List.mem_append_left _ (List.mem_append_right _ hz10))
                  exact ⟨cd z, 0, noLine, _, y12, (by rw [S_cd]; rfl), st10, ⟨by rw [cd_len]; exact hzl, lay_msgs.2.2.2.2, .inr ⟨hkp, rfl, by rw [← hst]; exact Rl.err_of e1, Sc.ok_of e2⟩⟩, by rw [S_len]; omega⟩
        · rintro σ H10 ⟨x, at_, msg, pl, y12', rfl, st10, hw, hpl⟩
          have hxl := hw.1
          have el : (S l).length = l.length := S_len l
          have ex : (S x).length = x.length := S_len x
          have e1 : readF (l ++ (cd g ++ (x ++ cd bh))) = .err (at_ + (cd g).length + l.length) msg := hp5.fail (by rw [gap_read hg1, hw.behind hbh]; rfl)
          refine ⟨_, rfl, _, rfl, _, _, rfl, rfl, (by rw [sizeLine_eq]; omega), _, rfl, _, _, rfl, rfl, (by rw [sizeLine_eq, Str.length_append]; omega), _, rfl, _, _, rfl, rfl, (by rw [sizeLine_eq, Str.length_append, Str.length_append]; omega), ?_⟩
          refine ⟨l ++ (cd g ++ (x ++ cd bh)), ?_, ?_, (by rw [e1]; exact fun h => by cases h), fun _ e => (by rw [e1] at e; cases e), fun a mm e H11 t s11 nt et => ?_⟩
          · exact congrArg (fun z => [V.str z]) (cat4 l x g bh)
          · rw [List.length_append, List.length_append, List.length_append, cd_len, cd_len]
            omega
          rw [e1] at e
          injection e with ea em
          subst em
          have hpa : pl = (a : Int) := by rw [hpl, ← ea, cd_len]; omega
          subst hpa
          have st11 := st10.same s11
          refine ⟨_, rfl, _, rfl, _, rfl, (by show 3 ≤ sizeLine; decide), fun r nr => ?_⟩
          have et' := same_upd (o := .tup [.int (a : Int), .str msg, .bl true]) nr _ _ et
          have st12 := st11.same (same_upd (o := .tup [.int (a : Int), .str msg, .bl true]) nr)
          have er' : upd H11 r (.tup [.int (a : Int), .str msg, .bl true]) r = some (.tup [.int (a : Int), .str msg, .bl true]) := upd_same
          generalize upd H11 r _ = H12 at et' st12 er' ⊢
          obtain ⟨q1, q2⟩ := told_eq (a := (a : Int)) hw.2.1
          refine ⟨_, _, dp_told et', dp_told er', q1, q1, _, rfl, ifF (by rw [q2]; rfl) ?_⟩
          refine ⟨_, rfl, t, _, _, .int (a : Int), rfl, rfl, SqT.of et', rfl, a, rfl, _, rfl, ifF rfl ?_⟩
          have fin : ∀ {H' : Hp}, StL K H' sa p ns → SqL K H' sa (ns.map V.int) := fun h => by obtain ⟨_, _, _, _, h⟩ := h; exact h
          refine ⟨_, rfl, _, _, rfl, rfl, _, rfl, ite2 (fun hkp => ?_) (fun hkp => ?_)⟩
          · have hkp' : 0 < kd := of_decide_eq_true hkp
            obtain ⟨ls, hls⟩ : ∃ ls, scan 0 x [] = .ok ls := by
              rcases hw.2.2 with ⟨h, _⟩ | ⟨_, _, _, h⟩
              · omega
              · exact h
            have e2 : readF (l ++ (cd g ++ (x ++ cd "\n("))) = .err (x.length + 1 + (cd g).length + l.length) notHere := hp5.fail (by rw [gap_read hg1, show cd "\n(" = [10, 40] by decide +kernel, behind_cut hls]; rfl)
            have l2 : ("\n(" : Str).length = 2 := by decide +kernel
            refine ⟨_, rfl, _, rfl, _, _, rfl, rfl, (by rw [sizeLine_eq]; omega), _, rfl, _, _, rfl, rfl, (by rw [sizeLine_eq, Str.length_append]; omega), _, _, rfl, rfl, (by rw [sizeLine_eq, Str.length_append, Str.length_append, l2]; omega), ?_⟩
            refine ⟨l ++ (cd g ++ (x ++ cd "\n(")), congrArg (fun z => [V.str z]) (cat4 l x g "\n("), ?_, (by rw [e2]; exact fun h => by cases h), fun _ e => (by rw [e2] at e; cases e), fun a2 mm e H13 t2 s13 nt2 et2 => ?_⟩
            · rw [List.length_append, List.length_append, List.length_append, cd_len, cd_len, l2]
              omega
            rw [e2] at e
            injection e with ea2 em2
            subst em2
            refine ⟨_, rfl, _, rfl, _, _, rfl, rfl, (by rw [sizeLine_eq]; omega), _, rfl, _, _, rfl, rfl, (by rw [sizeLine_eq, Str.length_append]; omega), ?_⟩
            refine ⟨_, rfl, (by rw [sizeLine_eq, Str.length_append, Str.length_append]; omega), _, _, rfl, rfl, (by show 3 ≤ sizeLine; decide), fun r2 nr2 => ?_⟩
            have ha : (((S l ++ g ++ S x).length : Nat) : Int) + 1 = (a2 : Int) := by
              rw [Str.length_append, Str.length_append, ← ea2, cd_len]
              omega
            rw [show (fun i j => V.int (i + j)) (((S l ++ g ++ S x).length : Nat) : Int) 1 = V.int (a2 : Int) from congrArg V.int ha]
            have st13 := st12.same s13
            have et3 := same_upd (o := .tup [.int (a2 : Int), .str notHere, .bl true]) nr2 _ _ et2
            have st14 := st13.same (same_upd (o := .tup [.int (a2 : Int), .str notHere, .bl true]) nr2)
            have er3 : upd H13 r2 (.tup [.int (a2 : Int), .str notHere, .bl true]) r2 = some (.tup [.int (a2 : Int), .str notHere, .bl true]) := upd_same
            obtain ⟨w1, w2⟩ := told_eq (a := (a2 : Int)) lay_msgs.2.1
            refine ⟨_, _, dp_told et3, dp_told er3, w1, w1, _, rfl, ifF (by rw [w2]; rfl) ?_⟩
            exact ⟨_, _, _, _, _, _, _, _, _, _, _, _, _, _, rfl, fin st14⟩
          · exact ifF rfl ⟨_, _, _, _, _, _, _, _, _, _, _, _, _, _, rfl, fin st12⟩
    · rintro σ H1 ⟨y1, y2, y3, y4, y5, y6, y7, y8, y9, y10, y11, y12, y13, y14, rfl, hS1⟩
      exact q H1
end
end My
/-! ### the tables -/
namespace My
open PySem L2 SX XT XS XE
theorem esc_all {K : PySem.W.Frag} {eA : Addr} {oc : Value} {od : Option Addr} {es : Array DictEntry} {n : Nat} {sl : Array (Option Value)} {h1 h2 h3 : Int} {t1 t2 t3 u1 u2 u3 : Tok} (l : K.lookup eA = some ⟨oc, od, .dict es n, sl⟩)
    (e : es.toList = [⟨h1, .str "n" t1, .str "\n" u1⟩, ⟨h2, .str "\"" t2, .str "\"" u2⟩, ⟨h3, .str "\\" t3, .str "\\" u3⟩]) (x : List Nat) :
    ∃ r, PySem.W.nsIn K eA (S x) = some r ∧ (∀ d, escL x = some d → ∃ u, r = some u ∧ RelV (.str (S [d])) u) ∧ (escL x = none → r = none) := by
  have k1 : (("n" : Str) == S x) = decide ([110] = x) := by
    rw [show (("n" : Str)) = S [110] by decide +kernel, S_beq_eq, Bool.eq_iff_iff]
  have k2 : (("\"" : Str) == S x) = decide ([34] = x) := by
    rw [show (("\"" : Str)) = S [34] by decide +kernel, S_beq_eq, Bool.eq_iff_iff]
  have k3 : (("\\" : Str) == S x) = decide ([92] = x) := by
    rw [show (("\\" : Str)) = S [92] by decide +kernel, S_beq_eq, Bool.eq_iff_iff]
  have v1 : (("\n" : Str)) = S [10] := by decide +kernel
  have v2 : (("\"" : Str)) = S [34] := by decide +kernel
  have v3 : (("\\" : Str)) = S [92] := by decide +kernel
  unfold PySem.W.nsIn
  rw [l]
  simp only [e, List.find?_cons, List.find?_nil, Value.isStr, k1, k2, k3, List.any_cons, List.any_nil, DictEntry.refKey]
  by_cases c1 : [110] = x
  · subst c1
    simp [escL, esc]
    exact ⟨u1, by rw [v1]⟩
  · by_cases c2 : [34] = x
    · subst c2
      simp [escL, esc]
      exact ⟨u2, by rw [v2]⟩
    · by_cases c3 : [92] = x
      · subst c3
        simp [escL, esc]
        exact ⟨u3, by rw [v3]⟩
      · have en : escL x = none := by
          match x, c1, c2, c3 with
          | [], _, _, _ => rfl
          | [c], c1, c2, c3 =>
            show esc c = none
            unfold esc
            rw [if_neg fun z => c1 (by rw [z]), if_neg fun z => c2 (by rw [z]), if_neg fun z => c3 (by rw [z])]
          | _ :: _ :: _, _, _, _ => rfl
        simp [c1, c2, c3, en]
theorem shp_mem {x : List Nat} {o : Option (List Str)} (h : shp x = some o) : (x, o) ∈ knownW := by
  unfold shp at h
  cases hf : knownW.find? fun p => decide (p.1 = x) with
  | none => rw [hf] at h; cases h
  | some p =>
    rw [hf] at h
    injection h with h
    have h1 := List.find?_some hf
    have h2 := List.mem_of_find?_eq_some hf
    have h3 : p.1 = x := of_decide_eq_true h1
    obtain ⟨a, b⟩ := p
    subst h3
    subst h
    exact h2
theorem Shp.of {K : PySem.W.Frag} {sA : Addr} (h0 : ∀ p ∈ knownW, p.2 = none → PySem.W.nsIn K sA (S p.1) = some none) (h1 : ∀ p ∈ knownW, ∀ zs, p.2 = some zs → ∃ a, PySem.W.nsIn K sA (S p.1) = some (some (.ref a)) ∧ ∀ H, SqT K H a (zs.map V.str)) : Shp K sA where
  no x h := h0 _ (shp_mem h) rfl
  ok x zs h := by
    obtain ⟨a, e, hs⟩ := h1 _ (shp_mem h) zs rfl
    exact ⟨_, a, e, rfl, hs⟩
end My
namespace My
open PySem L2 SX XT XS XE
set_option maxHeartbeats 0 in
theorem all_mk {l : PySem.W.OpenLaw} {w : World} {K : PySem.W.Frag} {h : Heap} {mg : Str → Option Value} {fa cChunk cRef cBuiltin cLivequillError cInvalidText cInvalidCode fInvalidCode cdaInvalidCode ccInvalidCode a_comment_end a_run_end a_lines_of a_piece_at a_number_of a_text_piece a_value_named a_is_bounded a_read_code a_read_line a_kinds_in a_begins_function a_is_small a_row_of a_fits a_is_value a_value_of a_law_cell a_law_is_integer a_law_begin a_law_draw a_law_pick a_law_right a_law_cut a_law_line a_law_index a_law_told a_law a_Chunk_init dTf_Chunk_init ef_Chunk_init a_Ref_init a_Builtin_init aBUILTINS aEE aSS aWW tA0 tA1 tA2 tA3 tA4 tA5 tA6 tA7 : Addr} (X : K.In h) (G : h.Ns mainGlobals mg) (hfa : mg "law" = some (.ref fa))
    {nmInvalidCode qInvalidCode flInvalidCode : Str}
    {NInvalidCode : Addr}
    {bsInvalidCode subInvalidCode : List Value}
    {snInvalidCode : List Str}
    {abInvalidCode : Bool}
    {colInvalidCode : Option Bool}
    {ddInvalidCode odInvalidCode anInvalidCode cddInvalidCode cldInvalidCode odf_comment_end anf_comment_end odf_run_end anf_run_end odf_lines_of anf_lines_of odf_piece_at anf_piece_at odf_number_of anf_number_of odf_text_piece anf_text_piece odf_value_named anf_value_named odf_is_bounded anf_is_bounded odf_read_code anf_read_code odf_read_line anf_read_line odf_kinds_in anf_kinds_in odf_begins_function anf_begins_function odf_is_small anf_is_small odf_row_of anf_row_of odf_fits anf_fits odf_is_value anf_is_value odf_value_of anf_value_of odf_law_cell anf_law_cell odf_law_is_integer anf_law_is_integer odf_law_begin anf_law_begin odf_law_draw anf_law_draw odf_law_pick anf_law_pick odf_law_right anf_law_right odf_law_cut anf_law_cut odf_law_line anf_law_line odf_law_index anf_law_index odf_law_told anf_law_told odlaw anlaw odf_Chunk_init anf_Chunk_init ddf_Chunk_init edf_Chunk_init odf_Ref_init anf_Ref_init odf_Builtin_init anf_Builtin_init ddoBUILTINS tD0 tD1 tD2 tD3 tD4 tD5 tD6 tD7 : Option Addr}
    {m0InvalidCode m1InvalidCode m2InvalidCode m3InvalidCode m5InvalidCode : Option Value}
    {slInvalidCode ccsInvalidCode cslInvalidCode slf_comment_end slf_run_end slf_lines_of slf_piece_at slf_number_of slf_text_piece slf_value_named slf_is_bounded slf_read_code slf_read_line slf_kinds_in slf_begins_function slf_is_small slf_row_of slf_fits slf_is_value slf_value_of slf_law_cell slf_law_is_integer slf_law_begin slf_law_draw slf_law_pick slf_law_right slf_law_cut slf_law_line slf_law_index slf_law_told sllaw slf_Chunk_init dof_Chunk_init eof_Chunk_init slf_Ref_init slf_Builtin_init osBUILTINS tO0 tO1 tO2 tO3 tO4 tO5 tO6 tO7 : Array (Option Value)}
    {ocInvalidCode kVInvalidCode dcInvalidCode pmInvalidCode ctInvalidCode cclInvalidCode cl_InvalidCode ocf_comment_end kVf_comment_end dcf_comment_end pmf_comment_end cdf_comment_end ctf_comment_end ocf_run_end kVf_run_end dcf_run_end pmf_run_end cdf_run_end ctf_run_end ocf_lines_of kVf_lines_of dcf_lines_of pmf_lines_of cdf_lines_of ctf_lines_of ocf_piece_at kVf_piece_at dcf_piece_at pmf_piece_at cdf_piece_at ctf_piece_at ocf_number_of kVf_number_of dcf_number_of pmf_number_of cdf_number_of ctf_number_of ocf_text_piece kVf_text_piece dcf_text_piece pmf_text_piece cdf_text_piece ctf_text_piece ocf_value_named kVf_value_named dcf_value_named pmf_value_named cdf_value_named ctf_value_named ocf_is_bounded kVf_is_bounded dcf_is_bounded pmf_is_bounded cdf_is_bounded ctf_is_bounded ocf_read_code kVf_read_code dcf_read_code pmf_read_code cdf_read_code ctf_read_code ocf_read_line kVf_read_line dcf_read_line pmf_read_line cdf_read_line ctf_read_line ocf_kinds_in kVf_kinds_in dcf_kinds_in pmf_kinds_in cdf_kinds_in ctf_kinds_in ocf_begins_function kVf_begins_function dcf_begins_function pmf_begins_function cdf_begins_function ctf_begins_function ocf_is_small kVf_is_small dcf_is_small pmf_is_small cdf_is_small ctf_is_small ocf_row_of kVf_row_of dcf_row_of pmf_row_of cdf_row_of ctf_row_of ocf_fits kVf_fits dcf_fits pmf_fits cdf_fits ctf_fits ocf_is_value kVf_is_value dcf_is_value pmf_is_value cdf_is_value ctf_is_value ocf_value_of kVf_value_of dcf_value_of pmf_value_of cdf_value_of ctf_value_of ocf_law_cell kVf_law_cell dcf_law_cell pmf_law_cell cdf_law_cell ctf_law_cell ocf_law_is_integer kVf_law_is_integer dcf_law_is_integer pmf_law_is_integer cdf_law_is_integer ctf_law_is_integer ocf_law_begin kVf_law_begin dcf_law_begin pmf_law_begin cdf_law_begin ctf_law_begin ocf_law_draw kVf_law_draw dcf_law_draw pmf_law_draw cdf_law_draw ctf_law_draw ocf_law_pick kVf_law_pick dcf_law_pick pmf_law_pick cdf_law_pick ctf_law_pick ocf_law_right kVf_law_right dcf_law_right pmf_law_right cdf_law_right ctf_law_right ocf_law_cut kVf_law_cut dcf_law_cut pmf_law_cut cdf_law_cut ctf_law_cut ocf_law_line kVf_law_line dcf_law_line pmf_law_line cdf_law_line ctf_law_line ocf_law_index kVf_law_index dcf_law_index pmf_law_index cdf_law_index ctf_law_index ocf_law_told kVf_law_told dcf_law_told pmf_law_told cdf_law_told ctf_law_told oclaw kVlaw dclaw pmlaw cdlaw ctlaw ocf_Chunk_init kVf_Chunk_init dcf_Chunk_init pmf_Chunk_init cdf_Chunk_init ctf_Chunk_init ocf_Ref_init kVf_Ref_init dcf_Ref_init pmf_Ref_init cdf_Ref_init ctf_Ref_init ocf_Builtin_init kVf_Builtin_init dcf_Builtin_init pmf_Builtin_init cdf_Builtin_init ctf_Builtin_init : Value}
    {cvsInvalidCode dif_Chunk_init eif_Chunk_init itsBUILTINS tI0 tI1 tI2 tI3 tI4 tI5 tI6 tI7 : Array Value}
    {tfInvalidCode tkLETTERS tkDIGITS tkMOST_DIGITS tkDOUBTFUL_BITS tkMOST_NUMBER tE1 tE2 tE3 uE1 uE2 uE3 : Tok}
    {dnf_Chunk_init enf_Chunk_init nnBUILTINS nnEE nnSS nnWW tN0 tN1 tN2 tN3 tN4 tN5 tN6 tN7 : Nat}
    {esEE esSS esWW : Array DictEntry}
    {hE1 hE2 hE3 : Int}
    (uChunk : PySem.W.nsIn K mainGlobals "Chunk" = some (some (.ref cChunk)))
    (mkChunk : PySem.W.makesIn K cChunk = true)
    (kcChunk : PySem.W.keepIn K (.ref cChunk) = true)
    (pgChunk : PySem.W.plainGet K cChunk Str.empty = true)
    (hdChunk : PySem.W.hasDictIn K cChunk = true)
    (poChunk : PySem.W.plainOver K cChunk = true)
    (saChunk : PySem.W.findIn K (.ref cChunk) "__setattr__" = some (some (.builtin "object.__setattr__")))
    (nChunk_number : PySem.W.findIn K (.ref cChunk) "number" = some none)
    (nChunk_wanted : PySem.W.findIn K (.ref cChunk) "wanted" = some none)
    (nChunk_rows : PySem.W.findIn K (.ref cChunk) "rows" = some none)
    (nChunk_scopes : PySem.W.findIn K (.ref cChunk) "scopes" = some none)
    (hnTy : PySem.W.specialIn K (.builtin "object.__class__") "__get__" = some (some (.builtin "getset_descriptor.__get__")))
    (htTy : PySem.W.takesIn K (.builtin "object.__class__") = some true)
    (haChunk : PySem.W.findIn K (.ref cChunk) "__class__" = some (some (.builtin "object.__class__")))
    (hmChunk : PySem.W.mroIn K cChunk (.type "object") = some true)
    (uRef : PySem.W.nsIn K mainGlobals "Ref" = some (some (.ref cRef)))
    (mkRef : PySem.W.makesIn K cRef = true)
    (kcRef : PySem.W.keepIn K (.ref cRef) = true)
    (pgRef : PySem.W.plainGet K cRef Str.empty = true)
    (hdRef : PySem.W.hasDictIn K cRef = true)
    (poRef : PySem.W.plainOver K cRef = true)
    (saRef : PySem.W.findIn K (.ref cRef) "__setattr__" = some (some (.builtin "object.__setattr__")))
    (nRef_number : PySem.W.findIn K (.ref cRef) "number" = some none)
    (haRef : PySem.W.findIn K (.ref cRef) "__class__" = some (some (.builtin "object.__class__")))
    (hmRef : PySem.W.mroIn K cRef (.type "object") = some true)
    (uBuiltin : PySem.W.nsIn K mainGlobals "Builtin" = some (some (.ref cBuiltin)))
    (mkBuiltin : PySem.W.makesIn K cBuiltin = true)
    (kcBuiltin : PySem.W.keepIn K (.ref cBuiltin) = true)
    (pgBuiltin : PySem.W.plainGet K cBuiltin Str.empty = true)
    (hdBuiltin : PySem.W.hasDictIn K cBuiltin = true)
    (poBuiltin : PySem.W.plainOver K cBuiltin = true)
    (saBuiltin : PySem.W.findIn K (.ref cBuiltin) "__setattr__" = some (some (.builtin "object.__setattr__")))
    (nBuiltin_name : PySem.W.findIn K (.ref cBuiltin) "name" = some none)
    (haBuiltin : PySem.W.findIn K (.ref cBuiltin) "__class__" = some (some (.builtin "object.__class__")))
    (hmBuiltin : PySem.W.mroIn K cBuiltin (.type "object") = some true)
    (uLivequillError : PySem.W.nsIn K mainGlobals "LivequillError" = some (some (.ref cLivequillError)))
    (uInvalidText : PySem.W.nsIn K mainGlobals "InvalidText" = some (some (.ref cInvalidText)))
    (uInvalidCode : PySem.W.nsIn K mainGlobals "InvalidCode" = some (some (.ref cInvalidCode)))
    (xInvalidCode : K.lookup cInvalidCode = some (excClassObj nmInvalidCode qInvalidCode cInvalidCode NInvalidCode bsInvalidCode [.ref cLivequillError, .type "ValueError", .type "Exception", .type "BaseException", .type "object"] true snInvalidCode subInvalidCode abInvalidCode colInvalidCode ddInvalidCode m0InvalidCode m1InvalidCode m2InvalidCode m3InvalidCode m5InvalidCode "ValueError.__new__"))
    (saInvalidCode : PySem.W.findIn K (.ref cInvalidCode) "__setattr__" = some (some (.builtin "object.__setattr__")))
    (exInvalidCode : PySem.W.subIn K (.ref cInvalidCode) (.type "BaseException") = some true)
    (tpInvalidCode : PySem.W.typeIn K (.ref cInvalidCode) = some (.type "type"))
    (kpInvalidCode : PySem.W.keepIn K (.ref cInvalidCode) = true)
    (n1InvalidCode : PySem.W.findIn K (.ref cInvalidCode) "offset" = some none)
    (n2InvalidCode : PySem.W.findIn K (.ref cInvalidCode) "message" = some none)
    (iInvalidCode : PySem.W.findIn K (.ref cInvalidCode) "__init__" = some (some (.ref fInvalidCode)))
    (tiInvalidCode : PySem.W.typeIn K (.ref fInvalidCode) = some (.type "function"))
    (gaInvalidCode : PySem.W.findIn K (.ref cInvalidCode) "__getattribute__" = some (some (.builtin "BaseException.__getattribute__")))
    (ggInvalidCode : PySem.W.findIn K (.ref cInvalidCode) "__getattr__" = some none)
    (hdInvalidCode : PySem.W.hasDictIn K cInvalidCode = true)
    (ssInvalidCode : PySem.W.subIn K (.ref cInvalidCode) (.ref cInvalidCode) = some true)
    (liInvalidCode : K.lookup fInvalidCode = some ⟨ocInvalidCode, odInvalidCode, .func (PySem.W.ksFn "__init__" "InvalidCode.__init__" (defArgs sx_InvalidCode) (defBody sx_InvalidCode) (defScope sx_InvalidCode) .none kVInvalidCode dcInvalidCode pmInvalidCode anInvalidCode (.ref cdaInvalidCode) ctInvalidCode ccInvalidCode), slInvalidCode⟩)
    (ciInvalidCode : PySem.W.codeIn K (.ref cdaInvalidCode) "InvalidCode.__init__" = true)
    (coInvalidCode : K.lookup cdaInvalidCode = some ⟨cclInvalidCode, cddInvalidCode, .fields cvsInvalidCode, ccsInvalidCode⟩)
    (cvInvalidCode : cvsInvalidCode[2]? = some (.str flInvalidCode tfInvalidCode))
    (fiInvalidCode : ((l.prog.main.file : Str) == flInvalidCode) = true)
    (ceInvalidCode : K.lookup ccInvalidCode = some ⟨cl_InvalidCode, cldInvalidCode, .cell (some (.ref cInvalidCode)), cslInvalidCode⟩)
    (toSup : (l.prog.main.scope.names.lookup ("super" : Str)).isSome = false)
    (suSup : PySem.W.nsIn K mainGlobals "super" = some none)
    (opSup : PySem.W.nsIn K PySem.cStatics "thirdparty.any" = some none)
    (mrInvalidCode : PySem.W.mroIn K cInvalidCode (.ref cInvalidCode) = some true)
    (ksInvalidCode : PySem.W.ks_superIn K cInvalidCode cInvalidCode "__init__" = some (some (.builtin "ValueError.__init__")))
    (vaInvalidCode : PySem.W.subIn K (.ref cInvalidCode) (.type "ValueError") = some true)
    (haInvalidCode : PySem.W.findIn K (.ref cInvalidCode) "__class__" = some (some (.builtin "object.__class__")))
    (hmInvalidCode : PySem.W.mroIn K cInvalidCode (.type "object") = some true)
    (klInvalidCodeLivequillError : PySem.W.kitOne K (.ref cInvalidCode) (.ref cLivequillError) = some true)
    (klInvalidCodeInvalidText : PySem.W.kitOne K (.ref cInvalidCode) (.ref cInvalidText) = some false)
    (af_comment_end : PySem.W.nsIn K mainGlobals "comment_end" = some (some (.ref a_comment_end)))
    (lf_comment_end : K.lookup a_comment_end = some ⟨ocf_comment_end, odf_comment_end, .func (PySem.W.fnOf "comment_end" "comment_end" (defArgs s_comment_end) (defBody s_comment_end) (defScope s_comment_end) .none kVf_comment_end dcf_comment_end pmf_comment_end anf_comment_end cdf_comment_end ctf_comment_end), slf_comment_end⟩)
    (cf_comment_end : PySem.W.codeIn K cdf_comment_end "comment_end" = true)
    (kf_comment_end : PySem.W.keepIn K (.ref a_comment_end) = true)
    (af_run_end : PySem.W.nsIn K mainGlobals "run_end" = some (some (.ref a_run_end)))
    (lf_run_end : K.lookup a_run_end = some ⟨ocf_run_end, odf_run_end, .func (PySem.W.fnOf "run_end" "run_end" (defArgs s_run_end) (defBody s_run_end) (defScope s_run_end) .none kVf_run_end dcf_run_end pmf_run_end anf_run_end cdf_run_end ctf_run_end), slf_run_end⟩)
    (cf_run_end : PySem.W.codeIn K cdf_run_end "run_end" = true)
    (kf_run_end : PySem.W.keepIn K (.ref a_run_end) = true)
    (af_lines_of : PySem.W.nsIn K mainGlobals "lines_of" = some (some (.ref a_lines_of)))
    (lf_lines_of : K.lookup a_lines_of = some ⟨ocf_lines_of, odf_lines_of, .func (PySem.W.fnOf "lines_of" "lines_of" (defArgs s_lines_of) (defBody s_lines_of) (defScope s_lines_of) .none kVf_lines_of dcf_lines_of pmf_lines_of anf_lines_of cdf_lines_of ctf_lines_of), slf_lines_of⟩)
    (cf_lines_of : PySem.W.codeIn K cdf_lines_of "lines_of" = true)
    (kf_lines_of : PySem.W.keepIn K (.ref a_lines_of) = true)
    (af_piece_at : PySem.W.nsIn K mainGlobals "piece_at" = some (some (.ref a_piece_at)))
    (lf_piece_at : K.lookup a_piece_at = some ⟨ocf_piece_at, odf_piece_at, .func (PySem.W.fnOf "piece_at" "piece_at" (defArgs s_piece_at) (defBody s_piece_at) (defScope s_piece_at) .none kVf_piece_at dcf_piece_at pmf_piece_at anf_piece_at cdf_piece_at ctf_piece_at), slf_piece_at⟩)
    (cf_piece_at : PySem.W.codeIn K cdf_piece_at "piece_at" = true)
    (kf_piece_at : PySem.W.keepIn K (.ref a_piece_at) = true)
    (af_number_of : PySem.W.nsIn K mainGlobals "number_of" = some (some (.ref a_number_of)))
    (lf_number_of : K.lookup a_number_of = some ⟨ocf_number_of, odf_number_of, .func (PySem.W.fnOf "number_of" "number_of" (defArgs s_number_of) (defBody s_number_of) (defScope s_number_of) .none kVf_number_of dcf_number_of pmf_number_of anf_number_of cdf_number_of ctf_number_of), slf_number_of⟩)
    (cf_number_of : PySem.W.codeIn K cdf_number_of "number_of" = true)
    (kf_number_of : PySem.W.keepIn K (.ref a_number_of) = true)
    (af_text_piece : PySem.W.nsIn K mainGlobals "text_piece" = some (some (.ref a_text_piece)))
    (lf_text_piece : K.lookup a_text_piece = some ⟨ocf_text_piece, odf_text_piece, .func (PySem.W.fnOf "text_piece" "text_piece" (defArgs s_text_piece) (defBody s_text_piece) (defScope s_text_piece) .none kVf_text_piece dcf_text_piece pmf_text_piece anf_text_piece cdf_text_piece ctf_text_piece), slf_text_piece⟩)
    (cf_text_piece : PySem.W.codeIn K cdf_text_piece "text_piece" = true)
    (kf_text_piece : PySem.W.keepIn K (.ref a_text_piece) = true)
    (af_value_named : PySem.W.nsIn K mainGlobals "value_named" = some (some (.ref a_value_named)))
    (lf_value_named : K.lookup a_value_named = some ⟨ocf_value_named, odf_value_named, .func (PySem.W.fnOf "value_named" "value_named" (defArgs s_value_named) (defBody s_value_named) (defScope s_value_named) .none kVf_value_named dcf_value_named pmf_value_named anf_value_named cdf_value_named ctf_value_named), slf_value_named⟩)
    (cf_value_named : PySem.W.codeIn K cdf_value_named "value_named" = true)
    (kf_value_named : PySem.W.keepIn K (.ref a_value_named) = true)
    (af_is_bounded : PySem.W.nsIn K mainGlobals "is_bounded" = some (some (.ref a_is_bounded)))
    (lf_is_bounded : K.lookup a_is_bounded = some ⟨ocf_is_bounded, odf_is_bounded, .func (PySem.W.fnOf "is_bounded" "is_bounded" (defArgs s_is_bounded) (defBody s_is_bounded) (defScope s_is_bounded) .none kVf_is_bounded dcf_is_bounded pmf_is_bounded anf_is_bounded cdf_is_bounded ctf_is_bounded), slf_is_bounded⟩)
    (cf_is_bounded : PySem.W.codeIn K cdf_is_bounded "is_bounded" = true)
    (kf_is_bounded : PySem.W.keepIn K (.ref a_is_bounded) = true)
    (af_read_code : PySem.W.nsIn K mainGlobals "read_code" = some (some (.ref a_read_code)))
    (lf_read_code : K.lookup a_read_code = some ⟨ocf_read_code, odf_read_code, .func (PySem.W.fnOf "read_code" "read_code" (defArgs s_read_code) (defBody s_read_code) (defScope s_read_code) .none kVf_read_code dcf_read_code pmf_read_code anf_read_code cdf_read_code ctf_read_code), slf_read_code⟩)
    (cf_read_code : PySem.W.codeIn K cdf_read_code "read_code" = true)
    (kf_read_code : PySem.W.keepIn K (.ref a_read_code) = true)
    (af_read_line : PySem.W.nsIn K mainGlobals "read_line" = some (some (.ref a_read_line)))
    (lf_read_line : K.lookup a_read_line = some ⟨ocf_read_line, odf_read_line, .func (PySem.W.fnOf "read_line" "read_line" (defArgs s_read_line) (defBody s_read_line) (defScope s_read_line) .none kVf_read_line dcf_read_line pmf_read_line anf_read_line cdf_read_line ctf_read_line), slf_read_line⟩)
    (cf_read_line : PySem.W.codeIn K cdf_read_line "read_line" = true)
    (kf_read_line : PySem.W.keepIn K (.ref a_read_line) = true)
    (af_kinds_in : PySem.W.nsIn K mainGlobals "kinds_in" = some (some (.ref a_kinds_in)))
    (lf_kinds_in : K.lookup a_kinds_in = some ⟨ocf_kinds_in, odf_kinds_in, .func (PySem.W.fnOf "kinds_in" "kinds_in" (defArgs s_kinds_in) (defBody s_kinds_in) (defScope s_kinds_in) .none kVf_kinds_in dcf_kinds_in pmf_kinds_in anf_kinds_in cdf_kinds_in ctf_kinds_in), slf_kinds_in⟩)
    (cf_kinds_in : PySem.W.codeIn K cdf_kinds_in "kinds_in" = true)
    (kf_kinds_in : PySem.W.keepIn K (.ref a_kinds_in) = true)
    (af_begins_function : PySem.W.nsIn K mainGlobals "begins_function" = some (some (.ref a_begins_function)))
    (lf_begins_function : K.lookup a_begins_function = some ⟨ocf_begins_function, odf_begins_function, .func (PySem.W.fnOf "begins_function" "begins_function" (defArgs s_begins_function) (defBody s_begins_function) (defScope s_begins_function) .none kVf_begins_function dcf_begins_function pmf_begins_function anf_begins_function cdf_begins_function ctf_begins_function), slf_begins_function⟩)
    (cf_begins_function : PySem.W.codeIn K cdf_begins_function "begins_function" = true)
    (kf_begins_function : PySem.W.keepIn K (.ref a_begins_function) = true)
    (af_is_small : PySem.W.nsIn K mainGlobals "is_small" = some (some (.ref a_is_small)))
    (lf_is_small : K.lookup a_is_small = some ⟨ocf_is_small, odf_is_small, .func (PySem.W.fnOf "is_small" "is_small" (defArgs s_is_small) (defBody s_is_small) (defScope s_is_small) .none kVf_is_small dcf_is_small pmf_is_small anf_is_small cdf_is_small ctf_is_small), slf_is_small⟩)
    (cf_is_small : PySem.W.codeIn K cdf_is_small "is_small" = true)
    (kf_is_small : PySem.W.keepIn K (.ref a_is_small) = true)
    (af_row_of : PySem.W.nsIn K mainGlobals "row_of" = some (some (.ref a_row_of)))
    (lf_row_of : K.lookup a_row_of = some ⟨ocf_row_of, odf_row_of, .func (PySem.W.fnOf "row_of" "row_of" (defArgs s_row_of) (defBody s_row_of) (defScope s_row_of) .none kVf_row_of dcf_row_of pmf_row_of anf_row_of cdf_row_of ctf_row_of), slf_row_of⟩)
    (cf_row_of : PySem.W.codeIn K cdf_row_of "row_of" = true)
    (kf_row_of : PySem.W.keepIn K (.ref a_row_of) = true)
    (af_fits : PySem.W.nsIn K mainGlobals "fits" = some (some (.ref a_fits)))
    (lf_fits : K.lookup a_fits = some ⟨ocf_fits, odf_fits, .func (PySem.W.fnOf "fits" "fits" (defArgs s_fits) (defBody s_fits) (defScope s_fits) .none kVf_fits dcf_fits pmf_fits anf_fits cdf_fits ctf_fits), slf_fits⟩)
    (cf_fits : PySem.W.codeIn K cdf_fits "fits" = true)
    (kf_fits : PySem.W.keepIn K (.ref a_fits) = true)
    (af_is_value : PySem.W.nsIn K mainGlobals "is_value" = some (some (.ref a_is_value)))
    (lf_is_value : K.lookup a_is_value = some ⟨ocf_is_value, odf_is_value, .func (PySem.W.fnOf "is_value" "is_value" (defArgs s_is_value) (defBody s_is_value) (defScope s_is_value) .none kVf_is_value dcf_is_value pmf_is_value anf_is_value cdf_is_value ctf_is_value), slf_is_value⟩)
    (cf_is_value : PySem.W.codeIn K cdf_is_value "is_value" = true)
    (kf_is_value : PySem.W.keepIn K (.ref a_is_value) = true)
    (af_value_of : PySem.W.nsIn K mainGlobals "value_of" = some (some (.ref a_value_of)))
    (lf_value_of : K.lookup a_value_of = some ⟨ocf_value_of, odf_value_of, .func (PySem.W.fnOf "value_of" "value_of" (defArgs s_value_of) (defBody s_value_of) (defScope s_value_of) .none kVf_value_of dcf_value_of pmf_value_of anf_value_of cdf_value_of ctf_value_of), slf_value_of⟩)
    (cf_value_of : PySem.W.codeIn K cdf_value_of "value_of" = true)
    (kf_value_of : PySem.W.keepIn K (.ref a_value_of) = true)
    (af_law_cell : PySem.W.nsIn K mainGlobals "_law_cell" = some (some (.ref a_law_cell)))
    (lf_law_cell : K.lookup a_law_cell = some ⟨ocf_law_cell, odf_law_cell, .func (PySem.W.fnOf "_law_cell" "_law_cell" (defArgs s_law_cell) (defBody s_law_cell) (defScope s_law_cell) .none kVf_law_cell dcf_law_cell pmf_law_cell anf_law_cell cdf_law_cell ctf_law_cell), slf_law_cell⟩)
    (cf_law_cell : PySem.W.codeIn K cdf_law_cell "_law_cell" = true)
    (kf_law_cell : PySem.W.keepIn K (.ref a_law_cell) = true)
    (af_law_is_integer : PySem.W.nsIn K mainGlobals "_law_is_integer" = some (some (.ref a_law_is_integer)))
    (lf_law_is_integer : K.lookup a_law_is_integer = some ⟨ocf_law_is_integer, odf_law_is_integer, .func (PySem.W.fnOf "_law_is_integer" "_law_is_integer" (defArgs s_law_is_integer) (defBody s_law_is_integer) (defScope s_law_is_integer) .none kVf_law_is_integer dcf_law_is_integer pmf_law_is_integer anf_law_is_integer cdf_law_is_integer ctf_law_is_integer), slf_law_is_integer⟩)
    (cf_law_is_integer : PySem.W.codeIn K cdf_law_is_integer "_law_is_integer" = true)
    (kf_law_is_integer : PySem.W.keepIn K (.ref a_law_is_integer) = true)
    (af_law_begin : PySem.W.nsIn K mainGlobals "_law_begin" = some (some (.ref a_law_begin)))
    (lf_law_begin : K.lookup a_law_begin = some ⟨ocf_law_begin, odf_law_begin, .func (PySem.W.fnOf "_law_begin" "_law_begin" (defArgs s_law_begin) (defBody s_law_begin) (defScope s_law_begin) .none kVf_law_begin dcf_law_begin pmf_law_begin anf_law_begin cdf_law_begin ctf_law_begin), slf_law_begin⟩)
    (cf_law_begin : PySem.W.codeIn K cdf_law_begin "_law_begin" = true)
    (kf_law_begin : PySem.W.keepIn K (.ref a_law_begin) = true)
    (af_law_draw : PySem.W.nsIn K mainGlobals "_law_draw" = some (some (.ref a_law_draw)))
    (lf_law_draw : K.lookup a_law_draw = some ⟨ocf_law_draw, odf_law_draw, .func (PySem.W.fnOf "_law_draw" "_law_draw" (defArgs s_law_draw) (defBody s_law_draw) (defScope s_law_draw) .none kVf_law_draw dcf_law_draw pmf_law_draw anf_law_draw cdf_law_draw ctf_law_draw), slf_law_draw⟩)
    (cf_law_draw : PySem.W.codeIn K cdf_law_draw "_law_draw" = true)
    (kf_law_draw : PySem.W.keepIn K (.ref a_law_draw) = true)
    (af_law_pick : PySem.W.nsIn K mainGlobals "_law_pick" = some (some (.ref a_law_pick)))
    (lf_law_pick : K.lookup a_law_pick = some ⟨ocf_law_pick, odf_law_pick, .func (PySem.W.fnOf "_law_pick" "_law_pick" (defArgs s_law_pick) (defBody s_law_pick) (defScope s_law_pick) .none kVf_law_pick dcf_law_pick pmf_law_pick anf_law_pick cdf_law_pick ctf_law_pick), slf_law_pick⟩)
    (cf_law_pick : PySem.W.codeIn K cdf_law_pick "_law_pick" = true)
    (kf_law_pick : PySem.W.keepIn K (.ref a_law_pick) = true)
    (af_law_right : PySem.W.nsIn K mainGlobals "_law_right" = some (some (.ref a_law_right)))
    (lf_law_right : K.lookup a_law_right = some ⟨ocf_law_right, odf_law_right, .func (PySem.W.fnOf "_law_right" "_law_right" (defArgs s_law_right) (defBody s_law_right) (defScope s_law_right) .none kVf_law_right dcf_law_right pmf_law_right anf_law_right cdf_law_right ctf_law_right), slf_law_right⟩)
    (cf_law_right : PySem.W.codeIn K cdf_law_right "_law_right" = true)
    (kf_law_right : PySem.W.keepIn K (.ref a_law_right) = true)
    (af_law_cut : PySem.W.nsIn K mainGlobals "_law_cut" = some (some (.ref a_law_cut)))
    (lf_law_cut : K.lookup a_law_cut = some ⟨ocf_law_cut, odf_law_cut, .func (PySem.W.fnOf "_law_cut" "_law_cut" (defArgs s_law_cut) (defBody s_law_cut) (defScope s_law_cut) .none kVf_law_cut dcf_law_cut pmf_law_cut anf_law_cut cdf_law_cut ctf_law_cut), slf_law_cut⟩)
    (cf_law_cut : PySem.W.codeIn K cdf_law_cut "_law_cut" = true)
    (kf_law_cut : PySem.W.keepIn K (.ref a_law_cut) = true)
    (af_law_line : PySem.W.nsIn K mainGlobals "_law_line" = some (some (.ref a_law_line)))
    (lf_law_line : K.lookup a_law_line = some ⟨ocf_law_line, odf_law_line, .func (PySem.W.fnOf "_law_line" "_law_line" (defArgs s_law_line) (defBody s_law_line) (defScope s_law_line) .none kVf_law_line dcf_law_line pmf_law_line anf_law_line cdf_law_line ctf_law_line), slf_law_line⟩)
    (cf_law_line : PySem.W.codeIn K cdf_law_line "_law_line" = true)
    (kf_law_line : PySem.W.keepIn K (.ref a_law_line) = true)
    (af_law_index : PySem.W.nsIn K mainGlobals "_law_index" = some (some (.ref a_law_index)))
    (lf_law_index : K.lookup a_law_index = some ⟨ocf_law_index, odf_law_index, .func (PySem.W.fnOf "_law_index" "_law_index" (defArgs s_law_index) (defBody s_law_index) (defScope s_law_index) .none kVf_law_index dcf_law_index pmf_law_index anf_law_index cdf_law_index ctf_law_index), slf_law_index⟩)
    (cf_law_index : PySem.W.codeIn K cdf_law_index "_law_index" = true)
    (kf_law_index : PySem.W.keepIn K (.ref a_law_index) = true)
    (af_law_told : PySem.W.nsIn K mainGlobals "_law_told" = some (some (.ref a_law_told)))
    (lf_law_told : K.lookup a_law_told = some ⟨ocf_law_told, odf_law_told, .func (PySem.W.fnOf "_law_told" "_law_told" (defArgs s_law_told) (defBody s_law_told) (defScope s_law_told) .none kVf_law_told dcf_law_told pmf_law_told anf_law_told cdf_law_told ctf_law_told), slf_law_told⟩)
    (cf_law_told : PySem.W.codeIn K cdf_law_told "_law_told" = true)
    (kf_law_told : PySem.W.keepIn K (.ref a_law_told) = true)
    (alaw : PySem.W.nsIn K mainGlobals "law" = some (some (.ref a_law)))
    (llaw : K.lookup a_law = some ⟨oclaw, odlaw, .func (PySem.W.fnOf "law" "law" (defArgs s_law) (defBody s_law) (defScope s_law) .none kVlaw dclaw pmlaw anlaw cdlaw ctlaw), sllaw⟩)
    (claw : PySem.W.codeIn K cdlaw "law" = true)
    (klaw : PySem.W.keepIn K (.ref a_law) = true)
    (af_Chunk_init : PySem.W.findIn K (.ref cChunk) "__init__" = some (some (.ref a_Chunk_init)))
    (if_Chunk_init : PySem.W.isFn K (.ref a_Chunk_init) = true)
    (lf_Chunk_init : K.lookup a_Chunk_init = some ⟨ocf_Chunk_init, odf_Chunk_init, .func (PySem.W.fnOf "__init__" "Chunk.__init__" (defArgs s_Chunk_init) (defBody s_Chunk_init) (defScope s_Chunk_init) (.ref dTf_Chunk_init) kVf_Chunk_init dcf_Chunk_init pmf_Chunk_init anf_Chunk_init cdf_Chunk_init ctf_Chunk_init), slf_Chunk_init⟩)
    (cf_Chunk_init : PySem.W.codeIn K cdf_Chunk_init "Chunk.__init__" = true)
    (kf_Chunk_init : PySem.W.keepIn K (.ref a_Chunk_init) = true)
    (dlf_Chunk_init : K.lookup dTf_Chunk_init = some ⟨.type "tuple", ddf_Chunk_init, .seq dif_Chunk_init dnf_Chunk_init, dof_Chunk_init⟩)
    (dvf_Chunk_init : Vals [.ref ef_Chunk_init] dif_Chunk_init.toList)
    (elf_Chunk_init : K.lookup ef_Chunk_init = some ⟨.type "tuple", edf_Chunk_init, .seq eif_Chunk_init enf_Chunk_init, eof_Chunk_init⟩)
    (evf_Chunk_init : Vals [] eif_Chunk_init.toList)
    (esf_Chunk_init : eif_Chunk_init.size ≤ sizeLine)
    (af_Ref_init : PySem.W.findIn K (.ref cRef) "__init__" = some (some (.ref a_Ref_init)))
    (if_Ref_init : PySem.W.isFn K (.ref a_Ref_init) = true)
    (lf_Ref_init : K.lookup a_Ref_init = some ⟨ocf_Ref_init, odf_Ref_init, .func (PySem.W.fnOf "__init__" "Ref.__init__" (defArgs s_Ref_init) (defBody s_Ref_init) (defScope s_Ref_init) .none kVf_Ref_init dcf_Ref_init pmf_Ref_init anf_Ref_init cdf_Ref_init ctf_Ref_init), slf_Ref_init⟩)
    (cf_Ref_init : PySem.W.codeIn K cdf_Ref_init "Ref.__init__" = true)
    (kf_Ref_init : PySem.W.keepIn K (.ref a_Ref_init) = true)
    (af_Builtin_init : PySem.W.findIn K (.ref cBuiltin) "__init__" = some (some (.ref a_Builtin_init)))
    (if_Builtin_init : PySem.W.isFn K (.ref a_Builtin_init) = true)
    (lf_Builtin_init : K.lookup a_Builtin_init = some ⟨ocf_Builtin_init, odf_Builtin_init, .func (PySem.W.fnOf "__init__" "Builtin.__init__" (defArgs s_Builtin_init) (defBody s_Builtin_init) (defScope s_Builtin_init) .none kVf_Builtin_init dcf_Builtin_init pmf_Builtin_init anf_Builtin_init cdf_Builtin_init ctf_Builtin_init), slf_Builtin_init⟩)
    (cf_Builtin_init : PySem.W.codeIn K cdf_Builtin_init "Builtin.__init__" = true)
    (kf_Builtin_init : PySem.W.keepIn K (.ref a_Builtin_init) = true)
    (qLETTERS : PySem.W.nsIn K mainGlobals "LETTERS" = some (some (.str "ABCDEFGHIJKLMNOPQRSTUVWXYZabcdefghijklmnopqrstuvwxyz_" tkLETTERS)))
    (qDIGITS : PySem.W.nsIn K mainGlobals "DIGITS" = some (some (.str "0123456789" tkDIGITS)))
    (qMOST_DIGITS : PySem.W.nsIn K mainGlobals "MOST_DIGITS" = some (some (.int 300 tkMOST_DIGITS)))
    (utBUILTINS : PySem.W.nsIn K mainGlobals "BUILTINS" = some (some (.ref aBUILTINS)))
    (ltBUILTINS : K.lookup aBUILTINS = some ⟨.type "tuple", ddoBUILTINS, .seq itsBUILTINS nnBUILTINS, osBUILTINS⟩)
    (vtBUILTINS : Vals [.str "print", .str "read", .str "str", .str "int", .str "len", .str "range", .str "kind", .str "abs", .str "min", .str "max", .str "pow", .str "gcd", .str "sqrt", .str "base", .str "parse", .str "char", .str "assert", .str "copy", .str "equals"] itsBUILTINS.toList)
    (stBUILTINS : itsBUILTINS.size ≤ sizeLine)
    (qDOUBTFUL_BITS : PySem.W.nsIn K mainGlobals "DOUBTFUL_BITS" = some (some (.int 997 tkDOUBTFUL_BITS)))
    (qMOST_NUMBER : PySem.W.nsIn K mainGlobals "MOST_NUMBER" = some (some (.int 999999999 tkMOST_NUMBER)))
    (zrange : PySem.W.nsIn K mainGlobals "range" = some none)
    (zlen : PySem.W.nsIn K mainGlobals "len" = some none)
    (zint : PySem.W.nsIn K mainGlobals "int" = some none)
    (zstr : PySem.W.nsIn K mainGlobals "str" = some none)
    (zbool : PySem.W.nsIn K mainGlobals "bool" = some none)
    (zisinstance : PySem.W.nsIn K mainGlobals "isinstance" = some none)
    (zlist : PySem.W.nsIn K mainGlobals "list" = some none)
    (zabs : PySem.W.nsIn K mainGlobals "abs" = some none)
    (zmin : PySem.W.nsIn K mainGlobals "min" = some none)
    (zmax : PySem.W.nsIn K mainGlobals "max" = some none)
    (zzip : PySem.W.nsIn K mainGlobals "zip" = some none)
    (zall : PySem.W.nsIn K mainGlobals "all" = some none)
    (udEE : PySem.W.nsIn K mainGlobals "ESCAPES" = some (some (.ref aEE)))
    (ldEE : K.lookup aEE = some ⟨.type "dict", none, .dict esEE nnEE, #[]⟩)
    (kdEE : PySem.W.KeysLit w.params esEE.toList)
    (lowEE : (aEE == sysModules) = false)
    (udSS : PySem.W.nsIn K mainGlobals "SHAPES" = some (some (.ref aSS)))
    (ldSS : K.lookup aSS = some ⟨.type "dict", none, .dict esSS nnSS, #[]⟩)
    (kdSS : PySem.W.KeysLit w.params esSS.toList)
    (lowSS : (aSS == sysModules) = false)
    (udWW : PySem.W.nsIn K mainGlobals "WORDS" = some (some (.ref aWW)))
    (ldWW : K.lookup aWW = some ⟨.type "dict", none, .dict esWW nnWW, #[]⟩)
    (kdWW : PySem.W.KeysLit w.params esWW.toList)
    (lowWW : (aWW == sysModules) = false)
    (xEE : esEE.toList = [⟨hE1, .str "n" tE1, .str "\n" uE1⟩, ⟨hE2, .str "\"" tE2, .str "\"" uE2⟩, ⟨hE3, .str "\\" tE3, .str "\\" uE3⟩])
    (nd0 : PySem.W.nsIn K aSS "const" = some (some (.ref tA0)))
    (lt0 : K.lookup tA0 = some ⟨.type "tuple", tD0, .seq tI0 tN0, tO0⟩)
    (vt0 : Vals [.str "value"] tI0.toList)
    (st0 : tI0.size ≤ sizeLine)
    (nd1 : PySem.W.nsIn K aSS "load" = some (some (.ref tA1)))
    (lt1 : K.lookup tA1 = some ⟨.type "tuple", tD1, .seq tI1 tN1, tO1⟩)
    (vt1 : Vals [.str "variable"] tI1.toList)
    (st1 : tI1.size ≤ sizeLine)
    (nd2 : PySem.W.nsIn K aSS "pop" = some (some (.ref tA2)))
    (lt2 : K.lookup tA2 = some ⟨.type "tuple", tD2, .seq tI2 tN2, tO2⟩)
    (vt2 : Vals [] tI2.toList)
    (st2 : tI2.size ≤ sizeLine)
    (nd3 : PySem.W.nsIn K aSS "add" = some (some (.ref tA3)))
    (lt3 : K.lookup tA3 = some ⟨.type "tuple", tD3, .seq tI3 tN3, tO3⟩)
    (vt3 : Vals [.str "offset"] tI3.toList)
    (st3 : tI3.size ≤ sizeLine)
    (nd4 : PySem.W.nsIn K aSS "call" = some (some (.ref tA4)))
    (lt4 : K.lookup tA4 = some ⟨.type "tuple", tD4, .seq tI4 tN4, tO4⟩)
    (vt4 : Vals [.str "number", .str "offset"] tI4.toList)
    (st4 : tI4.size ≤ sizeLine)
    (nd5 : PySem.W.nsIn K aSS "field" = some (some (.ref tA5)))
    (lt5 : K.lookup tA5 = some ⟨.type "tuple", tD5, .seq tI5 tN5, tO5⟩)
    (vt5 : Vals [.str "name", .str "offset"] tI5.toList)
    (st5 : tI5.size ≤ sizeLine)
    (nd6 : PySem.W.nsIn K aSS "ret" = some (some (.ref tA6)))
    (lt6 : K.lookup tA6 = some ⟨.type "tuple", tD6, .seq tI6 tN6, tO6⟩)
    (vt6 : Vals [] tI6.toList)
    (st6 : tI6.size ≤ sizeLine)
    (nd7 : PySem.W.nsIn K aSS "escape" = some (some (.ref tA7)))
    (lt7 : K.lookup tA7 = some ⟨.type "tuple", tD7, .seq tI7 tN7, tO7⟩)
    (vt7 : Vals [.str "number", .str "number", .str "index"] tI7.toList)
    (st7 : tI7.size ≤ sizeLine)
    (nd8 : PySem.W.nsIn K aSS "pops" = some none)
    (nd9 : PySem.W.nsIn K aSS "function" = some none)
    (nd10 : PySem.W.nsIn K aSS "Const" = some none)
    (nd11 : PySem.W.nsIn K aSS "set" = some none)
    (nw0 : PySem.W.nsIn K aWW "print" = some none)
    (nw1 : PySem.W.nsIn K aWW "nil" = some none)
    (nw2 : PySem.W.nsIn K aWW "reads" = some none)
    : ∃ fd : FuncData, (∀ (s : Shared) (v : Value), BindsTo s fd ⟨[v], []⟩ [("script", v)]) ∧ ∀ base : Heap, K.In base → base.Ns mainGlobals mg → FnOk l.prog w K mg base CX0 11 fa fd ["script"] (spLaw K) := by
  have e := hfa.symm.trans (PySem.W.mg_of X G alaw)
  cases e
  have KlChunk : Cls K cChunk := ⟨pgChunk, hdChunk, poChunk, saChunk⟩
  have tyChunk : ∀ {H : Hp} {a dx : Addr} {fs : List (Str × V)}, H a = some (.ins cChunk dx fs) → TyX K H (.ref a) (.ref cChunk) := fun e => .base (.ins e KlChunk haChunk hnTy htTy hmChunk)
  have KlRef : Cls K cRef := ⟨pgRef, hdRef, poRef, saRef⟩
  have tyRef : ∀ {H : Hp} {a dx : Addr} {fs : List (Str × V)}, H a = some (.ins cRef dx fs) → TyX K H (.ref a) (.ref cRef) := fun e => .base (.ins e KlRef haRef hnTy htTy hmRef)
  have KlBuiltin : Cls K cBuiltin := ⟨pgBuiltin, hdBuiltin, poBuiltin, saBuiltin⟩
  have tyBuiltin : ∀ {H : Hp} {a dx : Addr} {fs : List (Str × V)}, H a = some (.ins cBuiltin dx fs) → TyX K H (.ref a) (.ref cBuiltin) := fun e => .base (.ins e KlBuiltin haBuiltin hnTy htTy hmBuiltin)
  have oexInvalidCode : OexC K cInvalidCode := ⟨⟨nmInvalidCode, qInvalidCode, NInvalidCode, bsInvalidCode, _, snInvalidCode, subInvalidCode, abInvalidCode, colInvalidCode, ddInvalidCode, m0InvalidCode, m1InvalidCode, m2InvalidCode, m3InvalidCode, m5InvalidCode, xInvalidCode, by rfl⟩, saInvalidCode, exInvalidCode, tpInvalidCode, kpInvalidCode⟩
  have TInvalidCode : Exn l.prog K mg cInvalidCode fInvalidCode "offset" "message" := ⟨oexInvalidCode, n1InvalidCode, n2InvalidCode, iInvalidCode, tiInvalidCode, ⟨gaInvalidCode, ggInvalidCode, exInvalidCode, hdInvalidCode⟩, PySem.W.exm_ref exInvalidCode hdInvalidCode tpInvalidCode ssInvalidCode⟩
  have UInvalidCode : Sup l.prog K mg cdaInvalidCode ccInvalidCode cInvalidCode cInvalidCode := ⟨⟨_, _, _, _, _, _, coInvalidCode, cvInvalidCode, fiInvalidCode⟩, ⟨_, _, _, ceInvalidCode⟩, toSup, PySem.W.mg_none_of X G suSup, (PySem.W.any_some hdInvalidCode).imp fun _ h => h.1, mrInvalidCode, opSup, ksInvalidCode, vaInvalidCode⟩
  have bInvalidCode : Binds K (PySem.W.ksFn "__init__" "InvalidCode.__init__" (defArgs sx_InvalidCode) (defBody sx_InvalidCode) (defScope sx_InvalidCode) .none kVInvalidCode dcInvalidCode pmInvalidCode anInvalidCode (.ref cdaInvalidCode) ctInvalidCode ccInvalidCode) ["self", "offset", "message"] [] := .all fun us hl => match us, hl with | [_, _, _], _ => rfl
  have ecInvalidCode : ExcC K cInvalidCode := ⟨gaInvalidCode, ggInvalidCode, exInvalidCode, hdInvalidCode, haInvalidCode, hnTy, htTy, hmInvalidCode⟩
  have Ff_comment_end := fun_mk (st := s_comment_end) lf_comment_end cf_comment_end kf_comment_end
  have bf_comment_end := Ff_comment_end.binds (ps := ["text", "at"]) fun _ _ _ _ _ _ us hl => match us, hl with | [_, _], _ => rfl
  have glf_comment_end := PySem.W.mg_of X G af_comment_end
  have Ff_run_end := fun_mk (st := s_run_end) lf_run_end cf_run_end kf_run_end
  have bf_run_end := Ff_run_end.binds (ps := ["text", "at", "signs"]) fun _ _ _ _ _ _ us hl => match us, hl with | [_, _, _], _ => rfl
  have glf_run_end := PySem.W.mg_of X G af_run_end
  have Ff_lines_of := fun_mk (st := s_lines_of) lf_lines_of cf_lines_of kf_lines_of
  have bf_lines_of := Ff_lines_of.binds (ps := ["text"]) fun _ _ _ _ _ _ us hl => match us, hl with | [_], _ => rfl
  have glf_lines_of := PySem.W.mg_of X G af_lines_of
  have Ff_piece_at := fun_mk (st := s_piece_at) lf_piece_at cf_piece_at kf_piece_at
  have bf_piece_at := Ff_piece_at.binds (ps := ["text", "at"]) fun _ _ _ _ _ _ us hl => match us, hl with | [_, _], _ => rfl
  have glf_piece_at := PySem.W.mg_of X G af_piece_at
  have Ff_number_of := fun_mk (st := s_number_of) lf_number_of cf_number_of kf_number_of
  have bf_number_of := Ff_number_of.binds (ps := ["text"]) fun _ _ _ _ _ _ us hl => match us, hl with | [_], _ => rfl
  have glf_number_of := PySem.W.mg_of X G af_number_of
  have Ff_text_piece := fun_mk (st := s_text_piece) lf_text_piece cf_text_piece kf_text_piece
  have bf_text_piece := Ff_text_piece.binds (ps := ["text", "start"]) fun _ _ _ _ _ _ us hl => match us, hl with | [_, _], _ => rfl
  have glf_text_piece := PySem.W.mg_of X G af_text_piece
  have Ff_value_named := fun_mk (st := s_value_named) lf_value_named cf_value_named kf_value_named
  have bf_value_named := Ff_value_named.binds (ps := ["name"]) fun _ _ _ _ _ _ us hl => match us, hl with | [_], _ => rfl
  have glf_value_named := PySem.W.mg_of X G af_value_named
  have Ff_is_bounded := fun_mk (st := s_is_bounded) lf_is_bounded cf_is_bounded kf_is_bounded
  have bf_is_bounded := Ff_is_bounded.binds (ps := ["number"]) fun _ _ _ _ _ _ us hl => match us, hl with | [_], _ => rfl
  have glf_is_bounded := PySem.W.mg_of X G af_is_bounded
  have Ff_read_code := fun_mk (st := s_read_code) lf_read_code cf_read_code kf_read_code
  have bf_read_code := Ff_read_code.binds (ps := ["text"]) fun _ _ _ _ _ _ us hl => match us, hl with | [_], _ => rfl
  have glf_read_code := PySem.W.mg_of X G af_read_code
  have Ff_read_line := fun_mk (st := s_read_line) lf_read_line cf_read_line kf_read_line
  have bf_read_line := Ff_read_line.binds (ps := ["line", "chunks"]) fun _ _ _ _ _ _ us hl => match us, hl with | [_, _], _ => rfl
  have glf_read_line := PySem.W.mg_of X G af_read_line
  have Ff_kinds_in := fun_mk (st := s_kinds_in) lf_kinds_in cf_kinds_in kf_kinds_in
  have bf_kinds_in := Ff_kinds_in.binds (ps := ["pieces"]) fun _ _ _ _ _ _ us hl => match us, hl with | [_], _ => rfl
  have glf_kinds_in := PySem.W.mg_of X G af_kinds_in
  have Ff_begins_function := fun_mk (st := s_begins_function) lf_begins_function cf_begins_function kf_begins_function
  have bf_begins_function := Ff_begins_function.binds (ps := ["line"]) fun _ _ _ _ _ _ us hl => match us, hl with | [_], _ => rfl
  have glf_begins_function := PySem.W.mg_of X G af_begins_function
  have Ff_is_small := fun_mk (st := s_is_small) lf_is_small cf_is_small kf_is_small
  have bf_is_small := Ff_is_small.binds (ps := ["piece"]) fun _ _ _ _ _ _ us hl => match us, hl with | [_], _ => rfl
  have glf_is_small := PySem.W.mg_of X G af_is_small
  have Ff_row_of := fun_mk (st := s_row_of) lf_row_of cf_row_of kf_row_of
  have bf_row_of := Ff_row_of.binds (ps := ["pieces"]) fun _ _ _ _ _ _ us hl => match us, hl with | [_], _ => rfl
  have glf_row_of := PySem.W.mg_of X G af_row_of
  have Ff_fits := fun_mk (st := s_fits) lf_fits cf_fits kf_fits
  have bf_fits := Ff_fits.binds (ps := ["shape", "piece"]) fun _ _ _ _ _ _ us hl => match us, hl with | [_, _], _ => rfl
  have glf_fits := PySem.W.mg_of X G af_fits
  have Ff_is_value := fun_mk (st := s_is_value) lf_is_value cf_is_value kf_is_value
  have bf_is_value := Ff_is_value.binds (ps := ["piece"]) fun _ _ _ _ _ _ us hl => match us, hl with | [_], _ => rfl
  have glf_is_value := PySem.W.mg_of X G af_is_value
  have Ff_value_of := fun_mk (st := s_value_of) lf_value_of cf_value_of kf_value_of
  have bf_value_of := Ff_value_of.binds (ps := ["piece"]) fun _ _ _ _ _ _ us hl => match us, hl with | [_], _ => rfl
  have glf_value_of := PySem.W.mg_of X G af_value_of
  have Ff_law_cell := fun_mk (st := s_law_cell) lf_law_cell cf_law_cell kf_law_cell
  have bf_law_cell := Ff_law_cell.binds (ps := ["script", "k"]) fun _ _ _ _ _ _ us hl => match us, hl with | [_, _], _ => rfl
  have glf_law_cell := PySem.W.mg_of X G af_law_cell
  have Ff_law_is_integer := fun_mk (st := s_law_is_integer) lf_law_is_integer cf_law_is_integer kf_law_is_integer
  have bf_law_is_integer := Ff_law_is_integer.binds (ps := ["told"]) fun _ _ _ _ _ _ us hl => match us, hl with | [_], _ => rfl
  have glf_law_is_integer := PySem.W.mg_of X G af_law_is_integer
  have Ff_law_begin := fun_mk (st := s_law_begin) lf_law_begin cf_law_begin kf_law_begin
  have bf_law_begin := Ff_law_begin.binds (ps := ["script", "k"]) fun _ _ _ _ _ _ us hl => match us, hl with | [_, _], _ => rfl
  have glf_law_begin := PySem.W.mg_of X G af_law_begin
  have Ff_law_draw := fun_mk (st := s_law_draw) lf_law_draw cf_law_draw kf_law_draw
  have bf_law_draw := Ff_law_draw.binds (ps := ["state", "many"]) fun _ _ _ _ _ _ us hl => match us, hl with | [_, _], _ => rfl
  have glf_law_draw := PySem.W.mg_of X G af_law_draw
  have Ff_law_pick := fun_mk (st := s_law_pick) lf_law_pick cf_law_pick kf_law_pick
  have bf_law_pick := Ff_law_pick.binds (ps := ["state", "row"]) fun _ _ _ _ _ _ us hl => match us, hl with | [_, _], _ => rfl
  have glf_law_pick := PySem.W.mg_of X G af_law_pick
  have Ff_law_right := fun_mk (st := s_law_right) lf_law_right cf_law_right kf_law_right
  have bf_law_right := Ff_law_right.binds (ps := ["state"]) fun _ _ _ _ _ _ us hl => match us, hl with | [_], _ => rfl
  have glf_law_right := PySem.W.mg_of X G af_law_right
  have Ff_law_cut := fun_mk (st := s_law_cut) lf_law_cut cf_law_cut kf_law_cut
  have bf_law_cut := Ff_law_cut.binds (ps := ["state"]) fun _ _ _ _ _ _ us hl => match us, hl with | [_], _ => rfl
  have glf_law_cut := PySem.W.mg_of X G af_law_cut
  have Ff_law_line := fun_mk (st := s_law_line) lf_law_line cf_law_line kf_law_line
  have bf_law_line := Ff_law_line.binds (ps := ["state"]) fun _ _ _ _ _ _ us hl => match us, hl with | [_], _ => rfl
  have glf_law_line := PySem.W.mg_of X G af_law_line
  have Ff_law_index := fun_mk (st := s_law_index) lf_law_index cf_law_index kf_law_index
  have bf_law_index := Ff_law_index.binds (ps := ["state", "many"]) fun _ _ _ _ _ _ us hl => match us, hl with | [_, _], _ => rfl
  have glf_law_index := PySem.W.mg_of X G af_law_index
  have Ff_law_told := fun_mk (st := s_law_told) lf_law_told cf_law_told kf_law_told
  have bf_law_told := Ff_law_told.binds (ps := ["text"]) fun _ _ _ _ _ _ us hl => match us, hl with | [_], _ => rfl
  have glf_law_told := PySem.W.mg_of X G af_law_told
  have Flaw := fun_mk (st := s_law) llaw claw klaw
  have gllaw := PySem.W.mg_of X G alaw
  have Ff_Chunk_init : FunD K "__init__" "Chunk.__init__" (defArgs s_Chunk_init) (defBody s_Chunk_init) (defScope s_Chunk_init) [.ref ef_Chunk_init] [] a_Chunk_init (PySem.W.fnOf "__init__" "Chunk.__init__" (defArgs s_Chunk_init) (defBody s_Chunk_init) (defScope s_Chunk_init) (.ref dTf_Chunk_init) kVf_Chunk_init dcf_Chunk_init pmf_Chunk_init anf_Chunk_init cdf_Chunk_init ctf_Chunk_init) := ⟨⟨ocf_Chunk_init, odf_Chunk_init, .ref dTf_Chunk_init, kVf_Chunk_init, dcf_Chunk_init, pmf_Chunk_init, anf_Chunk_init, cdf_Chunk_init, ctf_Chunk_init, slf_Chunk_init, rfl, lf_Chunk_init, cf_Chunk_init, .inr ⟨by simp, dTf_Chunk_init, _, dif_Chunk_init.toList, dnf_Chunk_init, rfl, dlf_Chunk_init, by rw [Array.toArray_toList], dvf_Chunk_init⟩, .inl rfl⟩, kf_Chunk_init⟩
  obtain ⟨dsf_Chunk_init, vdf_Chunk_init, bf_Chunk_init⟩ := Ff_Chunk_init.binds1 (ps := ["self", "number", "wanted", "rows", "scopes"]) 4 0 (by simp) rfl fun _ _ _ _ _ _ _ us its h1 h2 => match us, its, h1, h2 with | [_, _, _, _], [_], _, _ => ⟨_, rfl, rfl⟩
  have Kf_Chunk_init : Mk K cChunk a_Chunk_init := ⟨mkChunk, af_Chunk_init, if_Chunk_init, kcChunk⟩
  have sef_Chunk_init : ∀ H, SqT K H ef_Chunk_init [] := fun H => .inr ⟨_, _, _, elf_Chunk_init, rfl, rfl, esf_Chunk_init, evf_Chunk_init⟩
  have Ff_Ref_init := fun_mk (st := s_Ref_init) lf_Ref_init cf_Ref_init kf_Ref_init
  have bf_Ref_init := Ff_Ref_init.binds (ps := ["self", "number"]) fun _ _ _ _ _ _ us hl => match us, hl with | [_, _], _ => rfl
  have Kf_Ref_init : Mk K cRef a_Ref_init := ⟨mkRef, af_Ref_init, if_Ref_init, kcRef⟩
  have Ff_Builtin_init := fun_mk (st := s_Builtin_init) lf_Builtin_init cf_Builtin_init kf_Builtin_init
  have bf_Builtin_init := Ff_Builtin_init.binds (ps := ["self", "name"]) fun _ _ _ _ _ _ us hl => match us, hl with | [_, _], _ => rfl
  have Kf_Builtin_init : Mk K cBuiltin a_Builtin_init := ⟨mkBuiltin, af_Builtin_init, if_Builtin_init, kcBuiltin⟩
  have ciLETTERS : ∃ t, mg "LETTERS" = some (.str "ABCDEFGHIJKLMNOPQRSTUVWXYZabcdefghijklmnopqrstuvwxyz_" t) := ⟨_, PySem.W.mg_of X G qLETTERS⟩
  have ciDIGITS : ∃ t, mg "DIGITS" = some (.str "0123456789" t) := ⟨_, PySem.W.mg_of X G qDIGITS⟩
  have ciMOST_DIGITS : ∃ t, mg "MOST_DIGITS" = some (.int 300 t) := ⟨_, PySem.W.mg_of X G qMOST_DIGITS⟩
  have tuBUILTINS : ∀ H, SqT K H aBUILTINS [.str "print", .str "read", .str "str", .str "int", .str "len", .str "range", .str "kind", .str "abs", .str "min", .str "max", .str "pow", .str "gcd", .str "sqrt", .str "base", .str "parse", .str "char", .str "assert", .str "copy", .str "equals"] := fun H => .inr ⟨_, _, _, ltBUILTINS, rfl, rfl, stBUILTINS, vtBUILTINS⟩
  have ciDOUBTFUL_BITS : ∃ t, mg "DOUBTFUL_BITS" = some (.int 997 t) := ⟨_, PySem.W.mg_of X G qDOUBTFUL_BITS⟩
  have ciMOST_NUMBER : ∃ t, mg "MOST_NUMBER" = some (.int 999999999 t) := ⟨_, PySem.W.mg_of X G qMOST_NUMBER⟩
  have L : Lib l.prog K mg ⟨cChunk, cRef, cBuiltin, cLivequillError, cInvalidText, cInvalidCode⟩ := ⟨PySem.W.mg_none_of X G zrange, PySem.W.mg_none_of X G zlen, PySem.W.mg_none_of X G zint, PySem.W.mg_none_of X G zstr, PySem.W.mg_none_of X G zbool, PySem.W.mg_none_of X G zisinstance, PySem.W.mg_none_of X G zlist, PySem.W.mg_none_of X G zabs, PySem.W.mg_none_of X G zmin, PySem.W.mg_none_of X G zmax, PySem.W.mg_none_of X G zzip, PySem.W.mg_none_of X G zall, ⟨KlChunk, PySem.W.mg_of X G uChunk, tyChunk⟩, nChunk_number, nChunk_wanted, nChunk_rows, nChunk_scopes, ⟨KlRef, PySem.W.mg_of X G uRef, tyRef⟩, nRef_number, ⟨KlBuiltin, PySem.W.mg_of X G uBuiltin, tyBuiltin⟩, nBuiltin_name, ⟨PySem.W.mg_of X G uLivequillError⟩, ⟨PySem.W.mg_of X G uInvalidText⟩, ⟨_, _, TInvalidCode, fun _ _ => ok_InvalidCode liInvalidCode ciInvalidCode TInvalidCode UInvalidCode, bInvalidCode, PySem.W.mg_of X G uInvalidCode, ecInvalidCode⟩, klInvalidCodeLivequillError, klInvalidCodeInvalidText, ciLETTERS, ciDIGITS, ciMOST_DIGITS, ⟨_, PySem.W.mg_of X G utBUILTINS, tuBUILTINS⟩, ciDOUBTFUL_BITS, ciMOST_NUMBER, ⟨_, _, Ff_comment_end, bf_comment_end, glf_comment_end⟩, ⟨_, _, Ff_run_end, bf_run_end, glf_run_end⟩, ⟨_, _, Ff_lines_of, bf_lines_of, glf_lines_of⟩, ⟨_, _, Ff_piece_at, bf_piece_at, glf_piece_at⟩, ⟨_, _, Ff_number_of, bf_number_of, glf_number_of⟩, ⟨_, _, Ff_text_piece, bf_text_piece, glf_text_piece⟩, ⟨_, _, Ff_value_named, bf_value_named, glf_value_named⟩, ⟨_, _, Ff_is_bounded, bf_is_bounded, glf_is_bounded⟩, ⟨_, _, Ff_read_code, bf_read_code, glf_read_code⟩, ⟨_, _, Ff_read_line, bf_read_line, glf_read_line⟩, ⟨_, _, Ff_kinds_in, bf_kinds_in, glf_kinds_in⟩, ⟨_, _, Ff_begins_function, bf_begins_function, glf_begins_function⟩, ⟨_, _, Ff_is_small, bf_is_small, glf_is_small⟩, ⟨_, _, Ff_row_of, bf_row_of, glf_row_of⟩, ⟨_, _, Ff_fits, bf_fits, glf_fits⟩, ⟨_, _, Ff_is_value, bf_is_value, glf_is_value⟩, ⟨_, _, Ff_value_of, bf_value_of, glf_value_of⟩, ⟨_, _, Ff_law_cell, bf_law_cell, glf_law_cell⟩, ⟨_, _, Ff_law_is_integer, bf_law_is_integer, glf_law_is_integer⟩, ⟨_, _, Ff_law_begin, bf_law_begin, glf_law_begin⟩, ⟨_, _, Ff_law_draw, bf_law_draw, glf_law_draw⟩, ⟨_, _, Ff_law_pick, bf_law_pick, glf_law_pick⟩, ⟨_, _, Ff_law_right, bf_law_right, glf_law_right⟩, ⟨_, _, Ff_law_cut, bf_law_cut, glf_law_cut⟩, ⟨_, _, Ff_law_line, bf_law_line, glf_law_line⟩, ⟨_, _, Ff_law_index, bf_law_index, glf_law_index⟩, ⟨_, _, Ff_law_told, bf_law_told, glf_law_told⟩, ⟨_, ef_Chunk_init, _, Ff_Chunk_init, sef_Chunk_init, _, vdf_Chunk_init, bf_Chunk_init, Kf_Chunk_init⟩, ⟨_, _, Ff_Ref_init, bf_Ref_init, Kf_Ref_init⟩, ⟨_, _, Ff_Builtin_init, bf_Builtin_init, Kf_Builtin_init⟩⟩
  have NN : NoWords K aWW := fun x h => by
    rcases h with rfl | rfl | rfl
    · exact (show PySem.W.nsIn K aWW (S [112, 114, 105, 110, 116] : Str) = some none from (by rw [show (S [112, 114, 105, 110, 116] : Str) = "print" by decide +kernel]; exact nw0))
    · exact (show PySem.W.nsIn K aWW (S [110, 105, 108] : Str) = some none from (by rw [show (S [110, 105, 108] : Str) = "nil" by decide +kernel]; exact nw1))
    · exact (show PySem.W.nsIn K aWW (S [114, 101, 97, 100, 115] : Str) = some none from (by rw [show (S [114, 101, 97, 100, 115] : Str) = "reads" by decide +kernel]; exact nw2))
  have SS : Shp K aSS := by
    refine Shp.of (fun p hp h => ?_) (fun p hp zs h => ?_)
    · simp only [knownW, List.mem_cons, List.not_mem_nil, or_false] at hp
      rcases hp with rfl | rfl | rfl | rfl | rfl | rfl | rfl | rfl | rfl | rfl | rfl | rfl
      · cases h
      · cases h
      · cases h
      · cases h
      · cases h
      · cases h
      · cases h
      · cases h
      · exact (show PySem.W.nsIn K aSS (S [112, 111, 112, 115] : Str) = some none from (by rw [show (S [112, 111, 112, 115] : Str) = "pops" by decide +kernel]; exact nd8))
      · exact (show PySem.W.nsIn K aSS (S [102, 117, 110, 99, 116, 105, 111, 110] : Str) = some none from (by rw [show (S [102, 117, 110, 99, 116, 105, 111, 110] : Str) = "function" by decide +kernel]; exact nd9))
      · exact (show PySem.W.nsIn K aSS (S [67, 111, 110, 115, 116] : Str) = some none from (by rw [show (S [67, 111, 110, 115, 116] : Str) = "Const" by decide +kernel]; exact nd10))
      · exact (show PySem.W.nsIn K aSS (S [115, 101, 116] : Str) = some none from (by rw [show (S [115, 101, 116] : Str) = "set" by decide +kernel]; exact nd11))
    · simp only [knownW, List.mem_cons, List.not_mem_nil, or_false] at hp
      rcases hp with rfl | rfl | rfl | rfl | rfl | rfl | rfl | rfl | rfl | rfl | rfl | rfl
      · cases h
        exact ⟨tA0, (show PySem.W.nsIn K aSS (S [99, 111, 110, 115, 116] : Str) = some (some (.ref tA0)) from (by rw [show (S [99, 111, 110, 115, 116] : Str) = "const" by decide +kernel]; exact nd0)), fun H => .inr ⟨_, _, _, lt0, rfl, rfl, st0, vt0⟩⟩
      · cases h
        exact ⟨tA1, (show PySem.W.nsIn K aSS (S [108, 111, 97, 100] : Str) = some (some (.ref tA1)) from (by rw [show (S [108, 111, 97, 100] : Str) = "load" by decide +kernel]; exact nd1)), fun H => .inr ⟨_, _, _, lt1, rfl, rfl, st1, vt1⟩⟩
      · cases h
        exact ⟨tA2, (show PySem.W.nsIn K aSS (S [112, 111, 112] : Str) = some (some (.ref tA2)) from (by rw [show (S [112, 111, 112] : Str) = "pop" by decide +kernel]; exact nd2)), fun H => .inr ⟨_, _, _, lt2, rfl, rfl, st2, vt2⟩⟩
      · cases h
        exact ⟨tA3, (show PySem.W.nsIn K aSS (S [97, 100, 100] : Str) = some (some (.ref tA3)) from (by rw [show (S [97, 100, 100] : Str) = "add" by decide +kernel]; exact nd3)), fun H => .inr ⟨_, _, _, lt3, rfl, rfl, st3, vt3⟩⟩
      · cases h
        exact ⟨tA4, (show PySem.W.nsIn K aSS (S [99, 97, 108, 108] : Str) = some (some (.ref tA4)) from (by rw [show (S [99, 97, 108, 108] : Str) = "call" by decide +kernel]; exact nd4)), fun H => .inr ⟨_, _, _, lt4, rfl, rfl, st4, vt4⟩⟩
      · cases h
        exact ⟨tA5, (show PySem.W.nsIn K aSS (S [102, 105, 101, 108, 100] : Str) = some (some (.ref tA5)) from (by rw [show (S [102, 105, 101, 108, 100] : Str) = "field" by decide +kernel]; exact nd5)), fun H => .inr ⟨_, _, _, lt5, rfl, rfl, st5, vt5⟩⟩
      · cases h
        exact ⟨tA6, (show PySem.W.nsIn K aSS (S [114, 101, 116] : Str) = some (some (.ref tA6)) from (by rw [show (S [114, 101, 116] : Str) = "ret" by decide +kernel]; exact nd6)), fun H => .inr ⟨_, _, _, lt6, rfl, rfl, st6, vt6⟩⟩
      · cases h
        exact ⟨tA7, (show PySem.W.nsIn K aSS (S [101, 115, 99, 97, 112, 101] : Str) = some (some (.ref tA7)) from (by rw [show (S [101, 115, 99, 97, 112, 101] : Str) = "escape" by decide +kernel]; exact nd7)), fun H => .inr ⟨_, _, _, lt7, rfl, rfl, st7, vt7⟩⟩
      · cases h
      · cases h
      · cases h
      · cases h
  have D : Dd K w mg _ := ⟨⟨aEE, aSS, aWW, PySem.W.mg_of X G udEE, PySem.W.mg_of X G udSS, PySem.W.mg_of X G udWW, ⟨_, _, ldEE, kdEE, lowEE⟩, ⟨_, _, ldSS, kdSS, lowSS⟩, ⟨_, _, ldWW, kdWW, lowWW⟩, esc_all ldEE xEE⟩, NN, SS, L.k_InvalidCode_InvalidText⟩
  exact ⟨PySem.W.fnOf "law" "law" (defArgs s_law) (defBody s_law) (defScope s_law) .none kVlaw dclaw pmlaw anlaw cdlaw ctlaw, fun s v => .of_eq rfl, fun base _ _ => ok_law Flaw L D⟩
end My
namespace PySem.W.Fast
def tw90343872475197607 : Type := PySem.Params
theorem te90343872475197607 : PySem.Params = tw90343872475197607 := rfl
end PySem.W.Fast
open PySem PySem.W PyProof.Rows
set_option maxRecDepth 100000 in
set_option maxHeartbeats 0 in
theorem PySem.Challenge.cw_livequill_k36_code_that_is_refused_holds : PySem.Challenge.rw_livequill_k36_code_that_is_refused.Holds := by
  w_on; o_law; k_head; (case hw => w_witness2)
  k_fill
  refine L2.walk_of (l := PySem.Challenge.rw_livequill_k36_code_that_is_refused) (n := 63) (k := 11) (x := "script") (CX := fun _ => L2.CX0) (sp := fun w => My.spLaw _) rfl (by decide) rfl ⟨rfl, by decide, by decide⟩ (fun w h Y => PySem.W.kIn_of Y) ?F (fun _ _ a ns hl _ hS => ⟨a, ns, rfl, hS, hl, fun _ => rfl⟩) (fun _ _ _ _ _ h => h)
  case F =>
    intro w mg fa h KX G hmg
    refine' My.all_mk KX G hmg ?uChunk ?mkChunk ?kcChunk ?pgChunk ?hdChunk ?poChunk ?saChunk ?nChunk_number ?nChunk_wanted ?nChunk_rows ?nChunk_scopes ?hnTy ?htTy ?haChunk ?hmChunk ?uRef ?mkRef ?kcRef ?pgRef ?hdRef ?poRef ?saRef ?nRef_number ?haRef ?hmRef ?uBuiltin ?mkBuiltin ?kcBuiltin ?pgBuiltin ?hdBuiltin ?poBuiltin ?saBuiltin ?nBuiltin_name ?haBuiltin ?hmBuiltin ?uLivequillError ?uInvalidText ?uInvalidCode ?xInvalidCode ?saInvalidCode ?exInvalidCode ?tpInvalidCode ?kpInvalidCode ?n1InvalidCode ?n2InvalidCode ?iInvalidCode ?tiInvalidCode ?gaInvalidCode ?ggInvalidCode ?hdInvalidCode ?ssInvalidCode ?liInvalidCode ?ciInvalidCode ?coInvalidCode ?cvInvalidCode ?fiInvalidCode ?ceInvalidCode ?toSup ?suSup ?opSup ?mrInvalidCode ?ksInvalidCode ?vaInvalidCode ?haInvalidCode ?hmInvalidCode ?klInvalidCodeLivequillError ?klInvalidCodeInvalidText ?af_comment_end ?lf_comment_end ?cf_comment_end ?kf_comment_end ?af_run_end ?lf_run_end ?cf_run_end ?kf_run_end ?af_lines_of ?lf_lines_of ?cf_lines_of ?kf_lines_of ?af_piece_at ?lf_piece_at ?cf_piece_at ?kf_piece_at ?af_number_of ?lf_number_of ?cf_number_of ?kf_number_of ?af_text_piece ?lf_text_piece ?cf_text_piece ?kf_text_piece ?af_value_named ?lf_value_named ?cf_value_named ?kf_value_named ?af_is_bounded ?lf_is_bounded ?cf_is_bounded ?kf_is_bounded ?af_read_code ?lf_read_code ?cf_read_code ?kf_read_code ?af_read_line ?lf_read_line ?cf_read_line ?kf_read_line ?af_kinds_in ?lf_kinds_in ?cf_kinds_in ?kf_kinds_in ?af_begins_function ?lf_begins_function ?cf_begins_function ?kf_begins_function ?af_is_small ?lf_is_small ?cf_is_small ?kf_is_small ?af_row_of ?lf_row_of ?cf_row_of ?kf_row_of ?af_fits ?lf_fits ?cf_fits ?kf_fits ?af_is_value ?lf_is_value ?cf_is_value ?kf_is_value ?af_value_of ?lf_value_of ?cf_value_of ?kf_value_of ?af_law_cell ?lf_law_cell ?cf_law_cell ?kf_law_cell ?af_law_is_integer ?lf_law_is_integer ?cf_law_is_integer ?kf_law_is_integer ?af_law_begin ?lf_law_begin ?cf_law_begin ?kf_law_begin ?af_law_draw ?lf_law_draw ?cf_law_draw ?kf_law_draw ?af_law_pick ?lf_law_pick ?cf_law_pick ?kf_law_pick ?af_law_right ?lf_law_right ?cf_law_right ?kf_law_right ?af_law_cut ?lf_law_cut ?cf_law_cut ?kf_law_cut ?af_law_line ?lf_law_line ?cf_law_line ?kf_law_line ?af_law_index ?lf_law_index ?cf_law_index ?kf_law_index ?af_law_told ?lf_law_told ?cf_law_told ?kf_law_told ?alaw ?llaw ?claw ?klaw ?af_Chunk_init ?if_Chunk_init ?lf_Chunk_init ?cf_Chunk_init ?kf_Chunk_init ?dlf_Chunk_init ?dvf_Chunk_init ?elf_Chunk_init ?evf_Chunk_init ?esf_Chunk_init ?af_Ref_init ?if_Ref_init ?lf_Ref_init ?cf_Ref_init ?kf_Ref_init ?af_Builtin_init ?if_Builtin_init ?lf_Builtin_init ?cf_Builtin_init ?kf_Builtin_init ?qLETTERS ?qDIGITS ?qMOST_DIGITS ?utBUILTINS ?ltBUILTINS ?vtBUILTINS ?stBUILTINS ?qDOUBTFUL_BITS ?qMOST_NUMBER ?zrange ?zlen ?zint ?zstr ?zbool ?zisinstance ?zlist ?zabs ?zmin ?zmax ?zzip ?zall ?udEE ?ldEE ?kdEE ?lowEE ?udSS ?ldSS ?kdSS ?lowSS ?udWW ?ldWW ?kdWW ?lowWW ?xEE ?nd0 ?lt0 ?vt0 ?st0 ?nd1 ?lt1 ?vt1 ?st1 ?nd2 ?lt2 ?vt2 ?st2 ?nd3 ?lt3 ?vt3 ?st3 ?nd4 ?lt4 ?vt4 ?st4 ?nd5 ?lt5 ?vt5 ?st5 ?nd6 ?lt6 ?vt6 ?st6 ?nd7 ?lt7 ?vt7 ?st7 ?nd8 ?nd9 ?nd10 ?nd11 ?nw0 ?nw1 ?nw2
    (case uChunk => k_is)
    (case mkChunk => k_is)
    (case kcChunk => k_is)
    (case pgChunk => k_is)
    (case hdChunk => k_is)
    (case poChunk => k_is)
    (case saChunk => k_is)
    (case nChunk_number => k_is)
    (case nChunk_wanted => k_is)
    (case nChunk_rows => k_is)
    (case nChunk_scopes => k_is)
    (case hnTy => k_is)
    (case htTy => k_is)
    (case haChunk => k_is)
    (case hmChunk => k_is)
    (case uRef => k_is)
    (case mkRef => k_is)
    (case kcRef => k_is)
    (case pgRef => k_is)
    (case hdRef => k_is)
    (case poRef => k_is)
    (case saRef => k_is)
    (case nRef_number => k_is)
    (case haRef => k_is)
    (case hmRef => k_is)
    (case uBuiltin => k_is)
    (case mkBuiltin => k_is)
    (case kcBuiltin => k_is)
    (case pgBuiltin => k_is)
    (case hdBuiltin => k_is)
    (case poBuiltin => k_is)
    (case saBuiltin => k_is)
    (case nBuiltin_name => k_is)
    (case haBuiltin => k_is)
    (case hmBuiltin => k_is)
    (case uLivequillError => k_is)
    (case uInvalidText => k_is)
    (case uInvalidCode => k_is)
    (case xInvalidCode => k_is)
    (case saInvalidCode => k_is)
    (case exInvalidCode => k_is)
    (case tpInvalidCode => k_is)
    (case kpInvalidCode => k_is)
    (case n1InvalidCode => k_is)
    (case n2InvalidCode => k_is)
    (case iInvalidCode => k_is)
    (case tiInvalidCode => k_is)
    (case gaInvalidCode => k_is)
    (case ggInvalidCode => k_is)
    (case hdInvalidCode => k_is)
    (case ssInvalidCode => first | rfl | k_is)
    (case liInvalidCode => k_is)
    (case ciInvalidCode => k_is)
    (case coInvalidCode => k_is)
    (case cvInvalidCode => rfl)
    (case fiInvalidCode => first | rfl | decide +kernel)
    (case ceInvalidCode => k_is)
    (case toSup => first | rfl | decide +kernel)
    (case suSup => k_is)
    (case opSup => k_is)
    (case mrInvalidCode => k_is)
    (case ksInvalidCode => ks_is)
    (case vaInvalidCode => k_is)
    (case haInvalidCode => k_is)
    (case hmInvalidCode => k_is)
    (case klInvalidCodeLivequillError => kit_is)
    (case klInvalidCodeInvalidText => kit_is)
    (case af_comment_end => k_is)
    (case lf_comment_end => k_is)
    (case cf_comment_end => k_is)
    (case kf_comment_end => k_is)
    (case af_run_end => k_is)
    (case lf_run_end => k_is)
    (case cf_run_end => k_is)
    (case kf_run_end => k_is)
    (case af_lines_of => k_is)
    (case lf_lines_of => k_is)
    (case cf_lines_of => k_is)
    (case kf_lines_of => k_is)
    (case af_piece_at => k_is)
    (case lf_piece_at => k_is)
    (case cf_piece_at => k_is)
    (case kf_piece_at => k_is)
    (case af_number_of => k_is)
    (case lf_number_of => k_is)
    (case cf_number_of => k_is)
    (case kf_number_of => k_is)
    (case af_text_piece => k_is)
    (case lf_text_piece => k_is)
    (case cf_text_piece => k_is)
    (case kf_text_piece => k_is)
    (case af_value_named => k_is)
    (case lf_value_named => k_is)
    (case cf_value_named => k_is)
    (case kf_value_named => k_is)
    (case af_is_bounded => k_is)
    (case lf_is_bounded => k_is)
    (case cf_is_bounded => k_is)
    (case kf_is_bounded => k_is)
    (case af_read_code => k_is)
    (case lf_read_code => k_is)
    (case cf_read_code => k_is)
    (case kf_read_code => k_is)
    (case af_read_line => k_is)
    (case lf_read_line => k_is)
    (case cf_read_line => k_is)
    (case kf_read_line => k_is)
    (case af_kinds_in => k_is)
    (case lf_kinds_in => k_is)
    (case cf_kinds_in => k_is)
    (case kf_kinds_in => k_is)
    (case af_begins_function => k_is)
    (case lf_begins_function => k_is)
    (case cf_begins_function => k_is)
    (case kf_begins_function => k_is)
    (case af_is_small => k_is)
    (case lf_is_small => k_is)
    (case cf_is_small => k_is)
    (case kf_is_small => k_is)
    (case af_row_of => k_is)
    (case lf_row_of => k_is)
    (case cf_row_of => k_is)
    (case kf_row_of => k_is)
    (case af_fits => k_is)
    (case lf_fits => k_is)
    (case cf_fits => k_is)
    (case kf_fits => k_is)
    (case af_is_value => k_is)
    (case lf_is_value => k_is)
    (case cf_is_value => k_is)
    (case kf_is_value => k_is)
    (case af_value_of => k_is)
    (case lf_value_of => k_is)
    (case cf_value_of => k_is)
    (case kf_value_of => k_is)
    (case af_law_cell => k_is)
    (case lf_law_cell => k_is)
    (case cf_law_cell => k_is)
    (case kf_law_cell => k_is)
    (case af_law_is_integer => k_is)
    (case lf_law_is_integer => k_is)
    (case cf_law_is_integer => k_is)
    (case kf_law_is_integer => k_is)
    (case af_law_begin => k_is)
    (case lf_law_begin => k_is)
    (case cf_law_begin => k_is)
    (case kf_law_begin => k_is)
    (case af_law_draw => k_is)
    (case lf_law_draw => k_is)
    (case cf_law_draw => k_is)
    (case kf_law_draw => k_is)
    (case af_law_pick => k_is)
    (case lf_law_pick => k_is)
    (case cf_law_pick => k_is)
    (case kf_law_pick => k_is)
    (case af_law_right => k_is)
    (case lf_law_right => k_is)
    (case cf_law_right => k_is)
    (case kf_law_right => k_is)
    (case af_law_cut => k_is)
    (case lf_law_cut => k_is)
    (case cf_law_cut => k_is)
    (case kf_law_cut => k_is)
    (case af_law_line => k_is)
    (case lf_law_line => k_is)
    (case cf_law_line => k_is)
    (case kf_law_line => k_is)
    (case af_law_index => k_is)
    (case lf_law_index => k_is)
    (case cf_law_index => k_is)
    (case kf_law_index => k_is)
    (case af_law_told => k_is)
    (case lf_law_told => k_is)
    (case cf_law_told => k_is)
    (case kf_law_told => k_is)
    (case alaw => k_is)
    (case llaw => k_is)
    (case claw => k_is)
    (case klaw => k_is)
    (case af_Chunk_init => k_is)
    (case if_Chunk_init => k_is)
    (case lf_Chunk_init => k_is)
    (case cf_Chunk_init => k_is)
    (case kf_Chunk_init => k_is)
    (case dlf_Chunk_init => k_is)
    (case dvf_Chunk_init => exact PySem.Paired.cons rfl PySem.Paired.nil)
    (case elf_Chunk_init => k_is)
    (case evf_Chunk_init => exact PySem.Paired.nil)
    (case esf_Chunk_init => (rw [sizeLine_eq]; decide))
    (case af_Ref_init => k_is)
    (case if_Ref_init => k_is)
    (case lf_Ref_init => k_is)
    (case cf_Ref_init => k_is)
    (case kf_Ref_init => k_is)
    (case af_Builtin_init => k_is)
    (case if_Builtin_init => k_is)
    (case lf_Builtin_init => k_is)
    (case cf_Builtin_init => k_is)
    (case kf_Builtin_init => k_is)
    (case qLETTERS => k_is)
    (case qDIGITS => k_is)
    (case qMOST_DIGITS => k_is)
    (case utBUILTINS => k_is)
    (case ltBUILTINS => k_is)
    (case vtBUILTINS => repeat (first | exact PySem.Paired.nil | refine PySem.Paired.cons ⟨_, rfl⟩ ?_))
    (case stBUILTINS => (rw [sizeLine_eq]; decide))
    (case qDOUBTFUL_BITS => k_is)
    (case qMOST_NUMBER => k_is)
    (case zrange => k_is)
    (case zlen => k_is)
    (case zint => k_is)
    (case zstr => k_is)
    (case zbool => k_is)
    (case zisinstance => k_is)
    (case zlist => k_is)
    (case zabs => k_is)
    (case zmin => k_is)
    (case zmax => k_is)
    (case zzip => k_is)
    (case zall => k_is)
    (case udEE => k_is)
    (case ldEE => k_is)
    (case kdEE => repeat (first | exact trivial | refine ⟨⟨_, _, rfl, rfl⟩, ?_⟩))
    (case lowEE => first | rfl | decide +kernel)
    (case udSS => k_is)
    (case ldSS => k_is)
    (case kdSS => repeat (first | exact trivial | refine ⟨⟨_, _, rfl, rfl⟩, ?_⟩))
    (case lowSS => first | rfl | decide +kernel)
    (case udWW => k_is)
    (case ldWW => k_is)
    (case kdWW => repeat (first | exact trivial | refine ⟨⟨_, _, rfl, rfl⟩, ?_⟩))
    (case lowWW => first | rfl | decide +kernel)
    (case xEE => rfl)
    (case nd0 => k_is)
    (case lt0 => k_is)
    (case vt0 => repeat (first | exact PySem.Paired.nil | refine PySem.Paired.cons ⟨_, rfl⟩ ?_))
    (case st0 => (rw [sizeLine_eq]; decide))
    (case nd1 => k_is)
    (case lt1 => k_is)
    (case vt1 => repeat (first | exact PySem.Paired.nil | refine PySem.Paired.cons ⟨_, rfl⟩ ?_))
    (case st1 => (rw [sizeLine_eq]; decide))
    (case nd2 => k_is)
    (case lt2 => k_is)
    (case vt2 => repeat (first | exact PySem.Paired.nil | refine PySem.Paired.cons ⟨_, rfl⟩ ?_))
    (case st2 => (rw [sizeLine_eq]; decide))
    (case nd3 => k_is)
    (case lt3 => k_is)
    (case vt3 => repeat (first | exact PySem.Paired.nil | refine PySem.Paired.cons ⟨_, rfl⟩ ?_))
    (case st3 => (rw [sizeLine_eq]; decide))
    (case nd4 => k_is)
    (case lt4 => k_is)
    (case vt4 => repeat (first | exact PySem.Paired.nil | refine PySem.Paired.cons ⟨_, rfl⟩ ?_))
    (case st4 => (rw [sizeLine_eq]; decide))
    (case nd5 => k_is)
    (case lt5 => k_is)
    (case vt5 => repeat (first | exact PySem.Paired.nil | refine PySem.Paired.cons ⟨_, rfl⟩ ?_))
    (case st5 => (rw [sizeLine_eq]; decide))
    (case nd6 => k_is)
    (case lt6 => k_is)
    (case vt6 => repeat (first | exact PySem.Paired.nil | refine PySem.Paired.cons ⟨_, rfl⟩ ?_))
    (case st6 => (rw [sizeLine_eq]; decide))
    (case nd7 => k_is)
    (case lt7 => k_is)
    (case vt7 => repeat (first | exact PySem.Paired.nil | refine PySem.Paired.cons ⟨_, rfl⟩ ?_))
    (case st7 => (rw [sizeLine_eq]; decide))
    (case nd8 => k_is)
    (case nd9 => k_is)
    (case nd10 => k_is)
    (case nd11 => k_is)
    (case nw0 => k_is)
    (case nw1 => k_is)
    (case nw2 => k_is)
