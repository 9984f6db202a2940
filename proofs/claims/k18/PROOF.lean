import PyProof.Rows.All
import Wide.All
import OpenK.AllK
import Wide.FinOn
import HandS.ForMost
import HandS.ForExc
import HandS.StrMore
import HandS.IsInst
import HandS.Codes
import HandS.Flow
import HandS.More
import HandS.Walk
import HandS.OwnEq
import HandS.Style
import PyProof.Raises
import KE.RegKIsAll
import KE.KSuper
import KE.KExcSuper
import HandS.ExcInit
import HandS.Nested
import HandS.FStr
import HandS.ExcField
import HandS.ExcIs
import HandS.Wide
import HandS.Replace
import KE.GoesEnum
import HandS.ReplaceDef
import HandS.ReplaceLit
import HandS.ReplaceList
import HandS.WideBits
import HandS.ExcCtx
import HandS.HotCalls
import HandS.Deep
import HandS.CallLocal
import HandS.CallSlots
import HandS.Star
import HandS.TupLen
import HandS.Property
import KE.KStar
import KE.KeyNested
import KE.KDictCopyH
import KE.KDictList
import PyProof.StrBlock2
import HandS.Conv
import KE.KDictWalk
import PyProof.DictValues
import PyProof.DictRoadsH
import PyProof.DictMoreH
import PyProof.Rows.TupTab
import PySem.Challenge.RW_livequill_k18_operators_of_other_kinds
set_option Elab.async false
set_option linter.all false
set_option maxRecDepth 100000
namespace XS
open PySem PySem.W PySem.Calls PyProof.Rows L2 NdefX
/-! ### an own exception whose __init__ begins with super().__init__(e), over ValueError -/
/-- what the written part says: of the def at fI (its code object at cda, its cell at cc), of the class D in which it is written, and of the class C that is made -/
structure Sup (prog : Program) (K : Frag) (mg : Str → Option Value) (cda cc D C : Addr) : Prop where
  code : ∃ ccl cdd vs ccs file tf, K.lookup cda = some ⟨ccl, cdd, .fields vs, ccs⟩ ∧ vs[2]? = some (.str file tf) ∧ ((prog.main.file : Str) == file) = true
  cell : ∃ cl cld csl, K.lookup cc = some ⟨cl, cld, .cell (some (.ref D)), csl⟩
  top : (prog.main.scope.names.lookup ("super" : Str)).isSome = false
  sup : mg "super" = none
  cls : ∃ cdD, clsIn K D = some cdD
  sub : mroIn K C (.ref D) = some true
  opq : nsIn K cStatics "thirdparty.any" = some none
  ini : ks_superIn K C D "__init__" = some (some (.builtin "ValueError.__init__"))
  val : subIn K (.ref C) (.type "ValueError") = some true

theorem excInit_exo {cdC : Addr} {K : Frag} (T : OexC K cdC) {h : Heap} (X : K.In h) : ∃ nm q N bs bm sn sub ab col dd k0 k1 k2 k3 k5, h.get? cdC = some (excClassObj nm q cdC N bs bm true sn sub ab col dd k0 k1 k2 k3 k5 "ValueError.__new__") ∧ PySem.HandSPX.refsVE bm = true := by
  obtain ⟨nm, q, N, bs, bm, sn, sub, ab, col, dd, k0, k1, k2, k3, k5, hC, hbm⟩ := T.cls
  exact ⟨nm, q, N, bs, bm, sn, sub, ab, col, dd, k0, k1, k2, k3, k5, X _ _ hC, hbm⟩

section
variable {X : Cx} {pins : List (Addr × Obj)} {σ : L2.St} {H : Hp} {s : Shared} {x C : Addr} {A : Around} {E : Value → Shared → Prop}
/-- the method-wrapper called -/
theorem mw_call {u : Addr} {us : List Value} {Q : Value → Shared → Prop} (T : OexC X.K C) (I : Inv X pins σ H s) (e : H x = some (exo x C none)) (hu : s.heap.get? u = some (kxs_mw "ValueError.__init__" x)) (hl : us.length ≤ sizeLine)
    (h : ∀ s', Inv X pins σ H s' → Q .none s') : wpAny (model X.prog X.w) A (call (.ref u) us) Q E s := by
  obtain ⟨nm, q, N, bs, bm, sn, sub, ab, col, dd, k0, k1, k2, k3, k5, hC, hbm⟩ := excInit_exo T I.kIn
  obtain ⟨t1, ho⟩ := exo_at I.hok e
  obtain ⟨hp, g, d, t, os⟩ := s
  refine wpAny_call (codeAny_of_tree ?_)
  show wpAny _ A.in1 (callAny (.ref u) ⟨us, []⟩) _ _ _
  simp only [callAny]
  refine wpAny_bind (wpAny_load hu ?_)
  simp only [kxs_mw, show (Value.type "method-wrapper" == Value.type "method" || Value.type "method-wrapper" == Value.type "builtin_function_or_method" || Value.type "method-wrapper" == Value.type "method-wrapper") = true by decide, if_true]
  refine KFB.if_so (by decide) ?_
  refine wpAny_bind (check_bound_init F.excBase_ValueError.toExcCallFacts hC ho rfl ?_)
  refine wpAny_bind (wpAny_pure (wpAny_pure ?_))
  refine ⟨plainId_quiet F.excBase_ValueError.init.plain _, codeAny_builtin F.excBase_ValueError.initEntry ?_⟩
  refine exc_init_tree (cls := .ref C) (t0 := t1) (dv := none) (c2 := .none) (c3 := .none) (b4 := .bool false) ho hl fun h' k hx _ => ?_
  have J := I.write (t' := t) (x := x) (e := x) (o := exo x C none) (by rw [e]; exact True.intro) (.inl rfl) k ⟨_, hx⟩ (exo_ok hx)
  have eu : upd H x (exo x C none) = H := by
    funext b
    by_cases hb : b = x
    · rw [hb, upd_same, e]
    · rw [upd_ne hb]
  rw [eu] at J
  exact h _ J
end
theorem mw_with {M : Model} {A : Around} {E : Value → Shared → Prop} {s : Shared} {u x : Addr} {i : String} {pos : Pos} {env : Env} {e : Expr} {rest : List Expr} {Q : Value → Shared → Prop}
    (he : starEach (e :: rest) env = (false, eval e env) :: starEach rest env) (hplain : (backTo pos (starEach rest env)).any (·.1) = false)
    (h : wpAny M A (spliced (backTo pos (starEach (e :: rest) env))) (fun vs s₁ => KxsAt i u x s₁.heap ∧ wpAny M A (call (.ref u) vs) Q E s₁) E s) :
    wpAny M A (callWith pos (.ref u) [] (backTo pos (starEach (e :: rest) env)) []) Q E s := by
  rw [he] at h ⊢
  refine kxs_callWith (i := i) (x := x) (by show (false || (backTo pos (starEach rest env)).any (·.1)) = false; rw [hplain]; rfl) ?_
  exact evalArgs_plain h
/-- the def's own words -/
structure SupFn where
  qual : Str
  params : Arguments
  rest : List Stmt
  scope : Scope
  cda : Addr
  cc : Addr
  arg : Expr
  p0 : Pos
  p1 : Pos
  p2 : Pos
  p3 : Pos
  p4 : Pos
abbrev SupFn.body (F : SupFn) : List Stmt := .Expr (.Call (.Attribute (.Call (.Name "super" F.p0) [] [] F.p1) "__init__" F.p2) [F.arg] [] F.p3) F.p4 :: F.rest
abbrev SupFn.nf (F : SupFn) : NF := ⟨"__init__", F.qual, F.params, F.body, F.scope, [("__class__", F.cc)], F.cda⟩
def SupFn.Ev (F : SupFn) : Prop := ∀ env : Env, (∃ pl : Sem Bool, eval (.Call (.Attribute (.Call (.Name "super" F.p0) [] [] F.p1) "__init__" F.p2) [F.arg] [] F.p3) env = (do
      let ov ← attributeBase (.Call (.Name "super" F.p0) [] [] F.p1) "__init__" env (eval (.Call (.Name "super" F.p0) [] [] F.p1) env)
      standAt F.p2.atName
      let (f, first) ← holding [ov] (getMethod ov "__init__" pl)
      callWith F.p3 f first (backTo F.p3 (starEach [F.arg] env)) [])) ∧ starEach [F.arg] env = (false, eval F.arg env) :: starEach [] env ∧ swapsWith (.Call (.Attribute (.Call (.Name "super" F.p0) [] [] F.p1) "__init__" F.p2) [F.arg] [] F.p3) none F.p4.line env = pure false
theorem fn_super {CX : CXT} {P : Program} {w : World} {K : Frag} {mg : Str → Option Value} {base : Heap} {k : Nat} {fI D : Addr} {F : SupFn} {dV kV doc pm ct oc : Value} {an od : Option Addr} {osl : Array (Option Value)} {N ps : List Str} {sp : Sp} {ar : Arg}
    (lk : K.lookup fI = some ⟨oc, od, .func (ksFn "__init__" F.qual F.params F.body F.scope dV kV doc pm an (.ref F.cda) ct F.cc), osl⟩) (hcd : codeIn K (.ref F.cda) F.qual = true) (S : NScope N ps ["__class__"] F.scope)
    (hp : (F.params.posonlyargs ++ F.params.args).head? = some ar) (h0 : ps.head? = some ar.arg) (hks : F.scope.names.lookup ("super" : Str) = some .globalImplicit)
    (hev : F.Ev) (len : ∀ vs H Q E, sp vs H Q E → vs.length = ps.length)
    (hbody : ∀ (A : Around) (outer : List Env) (s : Shared) (H : Hp) (vs : List V) (Q : VK) (E : XK), Room k (A.deeper (envF F.nf fI s.heap.objs.size)) → sp vs H Q E →
      ∃ (x C : Addr) (ta : TA) (t : TS), vs.head? = some (.ref x) ∧ H x = some (exo x C none) ∧ OexC K C ∧ Sup P K mg F.cda F.cc D C ∧
        PA (ncx CX P w K mg base N F.nf fI A outer s H E) [F.arg] ta ∧ PSs (ncx CX P w K mg base N F.nf fI A outer s H E) F.rest t ∧
        ta (startF N vs [none]) H fun ws H1 => ws.length ≤ 1000 ∧ H1 x = some (exo x C none) ∧ t { nx := fun _ H' => Q .non H', rt := Q } (startF N vs [none]) H1) :
    FnOk P w K mg base CX (k + 1) fI (ksFn "__init__" F.qual F.params F.body F.scope dV kV doc pm an (.ref F.cda) ct F.cc) ps sp := by
  refine ⟨len, fun A outer s H args us vs Q E hr e0 hb r hsp => ?_⟩
  have hl := len _ _ _ _ hsp
  have KX : K.In s.heap := e0.mod.kin.keeps fun b o e => (e0.bs b o e).1
  have lim : s.heap.NoLimit := e0.mod.nolimit.keeps fun b o e => (e0.bs b o e).1
  obtain ⟨x, C, ta, t, hx0, hx, T, U, pa, pb, hq⟩ := hbody A outer s H vs Q E (hr.deeper _) hsp
  obtain ⟨ccl, cdd, cvs, ccs, file, tf, hcode, hvs, hfile⟩ := U.code
  obtain ⟨cl, cld, csl, hcell⟩ := U.cell
  obtain ⟨cdD, hD⟩ := U.cls
  refine ks_codeAny_call_defAt (fd := ksFn "__init__" F.qual F.params F.body F.scope dV kV doc pm an (.ref F.cda) ct F.cc) (body := F.body) (binds := ps.zip us) hr.depth (KX _ _ lk) rfl lim (codeRec_of KX hcd) rfl hb S.nocell (fun ⟨n, _⟩ hy => S.par n (List.of_mem_zip hy).1) (fun h₁ hns kp => ?_) S.co S.gen S.kind
  have CA : CellsAt F.nf.cl ["__class__"] [none] s.heap H := by
    have hc0 : base.get? F.cc = _ := e0.mod.kin _ _ hcell
    obtain ⟨g1, g2⟩ := e0.bs _ _ hc0
    have key : ∀ y c, F.nf.cl.lookup y = some c → y = "__class__" ∧ c = F.cc := fun y c e => by
      by_cases hy : y = "__class__"
      · subst hy
        have e' : some F.cc = some c := by simpa [List.lookup] using e
        exact ⟨rfl, (Option.some.inj e').symm⟩
      · have hne : (y == ("__class__" : Str)) = false := by simpa using hy
        have e' : (none : Option Addr) = some c := by simpa [List.lookup, hne] using e
        cases e'
    refine ⟨rfl, fun y c e => ?_, fun a b c e1 e2 => (key _ _ e1).1.trans (key _ _ e2).1.symm, fun i y e => ?_⟩
    · obtain ⟨_, rfl⟩ := key y c e
      exact ⟨g2, _, _, g1, rfl⟩
    · obtain rfl : y = "__class__" := by
        cases i with
        | zero => exact (Option.some.inj e).symm
        | succ i => cases e
      refine ⟨F.cc, by simp [List.lookup], fun v e' => ?_⟩
      cases i with
      | zero => cases e'
      | succ i => cases e
  have I : Inv (ncx CX P w K mg base N F.nf fI A outer s H E) [] (startF N vs [none]) H { s with heap := h₁, toks := s.toks + (ps.zip us).length } := inv_startN (F := F.nf) S hr.hd e0 hl r CA hns kp
  generalize hs1 : ({ s with heap := h₁, toks := s.toks + (ps.zip us).length } : Shared) = s1 at I ⊢
  have X1 : K.In s1.heap := I.kIn
  obtain ⟨t1, ho⟩ := exo_at I.hok hx
  obtain ⟨oD, hD1, hD2⟩ : ∃ oD, s1.heap.get? D = some oD ∧ oD.data = .cls cdD := by
    unfold clsIn at hD
    split at hD
    · rename_i c d cd' sl ho
      cases hD
      exact ⟨_, X1 _ _ ho, rfl⟩
    · cases hD
  have J : InstAt s1.heap x { cls := .ref C, dict := none, data := .fields #[.ref t1, .none, .none, .none, .bool false, .none] } C none := ⟨ho, rfl, rfl, trivial⟩
  have hself : ∃ u0 ur, us = u0 :: ur ∧ u0 = .ref x := by
    cases vs with
    | nil => cases hx0
    | cons v vr =>
      cases r with
      | @cons _ u0 _ ur ra rr =>
        obtain rfl : v = V.ref x := Option.some.inj hx0
        exact ⟨_, _, rfl, ra⟩
  obtain ⟨u0, ur, eu, eu0⟩ := hself
  subst eu0
  have hN : ∃ pr, ps = ar.arg :: pr := by
    cases ps with
    | nil => cases h0
    | cons a pr =>
      obtain rfl : a = ar.arg := Option.some.inj h0
      exact ⟨pr, rfl⟩
  obtain ⟨pr, eps⟩ := hN
  have ndP : ps.Nodup := by
    have q := S.nd.sublist (List.take_sublist (ps.length + (["__class__"] : List Str).length) N)
    rw [S.pre] at q
    exact (List.nodup_append.mp q).1
  have hns1 : s1.heap.Ns s.heap.objs.size (fun y => (ps.zip us).reverse.lookup y) := by rw [← hs1]; exact hns
  have hav : (ps.zip us).reverse.lookup ar.arg = some (.ref x) := zip_look (i := 0) ndP (by rw [eps]; rfl) (by rw [eu]; rfl)
  have ea : (ncx CX P w K mg base N F.nf fI A outer s H E).xe = fun e s' => wpAny (model P w) (A.deeper (envF F.nf fI s.heap.objs.size)) (leaving (envF F.nf fI s.heap.objs.size) e) (fun _ s'' => CX outer H s E e s'') (fun e' s'' => CX outer H s E e' s'') s' := rfl
  show _root_.PySem.wpAt (model P w) (A.deeper (envF F.nf fI s.heap.objs.size)) (.func F.body (envF F.nf fI s.heap.objs.size)) (execs F.body (envF F.nf fI s.heap.objs.size)) _ (ncx CX P w K mg base N F.nf fI A outer s H E).xe s1
  obtain ⟨⟨pl, hev1⟩, hev2, hev3⟩ := hev (envF F.nf fI s.heap.objs.size)
  refine ks_wpAt_execs_cons (ks_wpAt_Expr_any (ks_wpAt_MethodCall (pl := pl) ?_ hev1) (by show interactive (envF F.nf fI s.heap.objs.size) = false; simp [interactive, S.kind]) hev3)
  obtain ⟨mb, hb1, hb2⟩ := e0.mod.blt
  refine ks_wpAt_super_base (env := envF F.nf fI s.heap.objs.size) (of := _) (fd := _) (ar := ar) (oc := _) hks (S.frk _ (by simp)) rfl rfl (X1 _ _ lk) rfl hp rfl (X1 _ _ hcode) rfl hvs hfile U.top ?_
  refine ks_loadName_global S.kind hks (loadGlobal_builtin (env := envF F.nf fI s.heap.objs.size) (e0.mod.glob.keeps I.bk) U.sup (hb1.keeps I.bk) ((hb2 _ (by decide)).trans (by decide +kernel)) ⟨rfl, ?_⟩)
  refine wpAny_loadName_free S.kind (S.frk _ (by simp)) rfl ⟨_, X1 _ _ hcell, rfl⟩ ?_
  refine wpAny_loadName_local S.kind (S.par _ (by rw [eps]; simp)) hns1 hav ?_
  refine ks_wpAny_isType_cls hD1 hD2 ⟨rfl, ?_⟩
  clear hns kp
  obtain ⟨hp1, g1, d1, tk1, os1⟩ := s1
  refine ks_wpAny_call_super hD1 hD2 J.at_ J.cls (fun c e => by cases e) (looks_mroIn X1 U.sub) (fun h2 es2 k2 => ?_)
  have I2 := I.kept (t' := tk1) k2
  have X2 : K.In h2 := I2.kIn
  have J2 : InstAt h2 x { cls := .ref C, dict := none, data := .fields #[.ref t1, .none, .none, .none, .bool false, .none] } C none := ⟨k2 _ _ ho, rfl, rfl, trivial⟩
  have hI : Looks (model P w) h2 (isInstance (.ref x) (.type "ValueError")) true := J2.type.andThen (looks_subIn X2 U.val)
  have hini := U.ini
  cases hc : clsIn K C with
  | none => unfold ks_superIn at hini; rw [hc] at hini; cases hini
  | some cd =>
    unfold ks_superIn at hini
    rw [hc] at hini
    refine kxs_getMethod kxs_ValueError es2 (looks_opaque X2 U.opq) (l₀ := cd.mro) (fun A Q E s k q => wpAny_bind ((looks_clsIn X2 hc) A _ E s k (wpAny_pure q))) rfl X2 hini hI (ks_ne X2 J2 hc) rfl ?_
    have k3 : ∀ b o, h2.get? b = some o → (h2.push (kxs_mw "ValueError.__init__" x)).get? b = some o := fun b o e => Heap.get?_push_of_some _ e
    have I3 := I2.kept (h' := h2.push (kxs_mw "ValueError.__init__" x)) (t' := tk1 + 1) k3
    have hu : (h2.push (kxs_mw "ValueError.__init__" x)).get? h2.objs.size = some (kxs_mw "ValueError.__init__" x) := Heap.get?_push_at rfl rfl
    have pin : Inv (ncx CX P w K mg base N F.nf fI A outer s H E) [(h2.objs.size, kxs_mw "ValueError.__init__" x)] (startF N vs [none]) H ⟨h2.push (kxs_mw "ValueError.__init__" x), g1, d1, tk1 + 1, os1⟩ := by
      refine Inv.pins_of I3 fun p hp => ?_
      obtain rfl : p = (h2.objs.size, kxs_mw "ValueError.__init__" x) := by simpa using hp
      refine ⟨hu, I2.hok.fresh (Nat.le_refl _), ?_, I2.nofs (Nat.le_refl _), fun v e => by cases e⟩
      exact Nat.ne_of_gt I2.lt
    refine mw_with (i := "ValueError.__init__") (x := x) hev2 rfl ?_
    refine wpAny_mono (pa.run F.p3 _ _ _ _ _ pin hq) (fun ws s2 hh => ?_) fun e s' hs => hs
    obtain ⟨vs2, H2, I4, r4, hlen, hx4, hq4⟩ := hh
    have hu4 : s2.heap.get? h2.objs.size = some (kxs_mw "ValueError.__init__" x) := (I4.pin (h2.objs.size, kxs_mw "ValueError.__init__" x) (by simp)).1
    refine ⟨hu4, ?_⟩
    have hlw : ws.length ≤ sizeLine := by
      rw [← r4.length, sizeLine_eq]
      omega
    refine mw_call (X := ncx CX P w K mg base N F.nf fI A outer s H E) T I4 hx4 hu4 hlw fun s5 I5 => ?_
    have I6 : Inv (ncx CX P w K mg base N F.nf fI A outer s H E) [] (startF N vs [none]) H2 s5 := I5.pins_of fun p hp => absurd hp (by simp)
    refine wpAt_of_wpAny (wpAny_mono (pb.run [] s5 _ H2 _ I6 hq4) (fun fl s' hs => ?_) fun e s' hs => hs)
    have fin : ∀ {σ' : L2.St} {H' : Hp} {v : V} {u : Value}, Inv (ncx CX P w K mg base N F.nf fI A outer s H E) [] σ' H' s' → L2.RelV v u → Q v H' → CE outer P w H s Q u s' :=
      fun {σ' H' v u} J rv q => ⟨v, H', J.os, J.bare, J.base, J.hok, rv, q⟩
    cases fl with
    | ret u =>
      obtain ⟨v, σ', H', J, rv, q⟩ := hs
      exact fin J rv q
    | next =>
      obtain ⟨σ', H', J, q⟩ := hs
      exact fin (v := V.non) (u := Value.none) J rfl q
    | brk =>
      obtain ⟨_, _, _, q⟩ := hs
      exact False.elim q
    | cont =>
      obtain ⟨_, _, _, q⟩ := hs
      exact False.elim q
end XS
namespace XS
open PySem L2 NdefX
/-- the words of an __init__ that begins with super().__init__(e) -/
def supOf (st : Stmt) (qual : Str) (cda cc : Addr) : SupFn := match defBody st with
  | .Expr (.Call (.Attribute (.Call (.Name _ p0) _ _ p1) _ p2) (a :: _) _ p3) p4 :: rest => ⟨qual, defArgs st, rest, defScope st, cda, cc, a, p0, p1, p2, p3, p4⟩
  | _ => ⟨qual, defArgs st, [], defScope st, cda, cc, .Name "x" ⟨0, 0, 0, 0⟩, ⟨0, 0, 0, 0⟩, ⟨0, 0, 0, 0⟩, ⟨0, 0, 0, 0⟩, ⟨0, 0, 0, 0⟩, ⟨0, 0, 0, 0⟩⟩
/-- an __init__(self, n1, n2) of an own exception: f'..' of both to super's, then both are stored -/
def spTwo (C : Addr) (n1 n2 : Str) : Sp := fun vs H Q _ => ∃ a v1 v2, vs = [.ref a, v1, v2] ∧ H a = some (exo a C none) ∧ (∃ k : Str, v1 = .str k ∧ k.length ≤ 100000) ∧ (∃ k : Str, v2 = .str k ∧ k.length ≤ 100000) ∧
  ∀ d, H d = none → d ≠ a → Q .non (upd (upd (upd H d (exd d [(n1, v1)])) a (exo a C (some d))) d (exd d [(n2, v2), (n1, v1)]))
/-- what the written part says of the class at C and of its __init__ at fI -/
structure Exn (prog : Program) (K : PySem.W.Frag) (mg : Str → Option Value) (C fI : Addr) (n1 n2 : Str) : Prop where
  oex : OexC K C
  n1 : PySem.W.findIn K (.ref C) n1 = some none
  n2 : PySem.W.findIn K (.ref C) n2 = some none
  iC : PySem.W.findIn K (.ref C) "__init__" = some (some (.ref fI))
  tI : PySem.W.typeIn K (.ref fI) = some (.type "function")
  xf : XfC K C
  te : PySem.W.exmOne K (.ref C) (.ref C) = some true
/-- the end of C(e, ..) as the caller has it -/
theorem made_two {C : Addr} {n1 n2 : Str} {v1 v2 : V} {H : Hp} {a d : Addr} (hne : d ≠ a) (ha : H a = none) :
    upd (del (upd (upd (upd (upd H a (exo a C none)) d (exd d [(n1, v1)])) a (exo a C (some d))) d (exd d [(n2, v2), (n1, v1)])) a) d (.xd [(n2, v2), (n1, v1)]) = upd H d (.xd [(n2, v2), (n1, v1)]) := by
  funext b
  by_cases hb : b = d
  · rw [hb, upd_same, upd_same]
  · rw [upd_ne hb, upd_ne hb]
    by_cases hc : b = a
    · rw [hc, del_same, ha]
    · rw [del_ne hc, upd_ne hb, upd_ne hc, upd_ne hb, upd_ne hc]
section
variable {X : Cx} {C fI : Addr} {n1 n2 x : Str} {e : Expr} {es : List Expr} {ta : TA} {p pos pos2 : Pos} {fd : FuncData} {k : Nat}
/-- raise C(e1, e2) -/
theorem ps_raise2 {W : WX} (hc : X.calm = true) (T : Exn X.prog X.K X.mg C fI n1 n2) (F : FnOk X.prog X.w X.K X.mg X.base CX0 k fI fd ["self", n1, n2] (spTwo C n1 n2)) (hr : Room (k + 1) X.A) (tk : Takes X W) (hb : Binds X.K fd ["self", n1, n2] []) (hg : Gl X x) (hm : X.mg x = some (.ref C)) (ha : PA X (e :: es) ta)
    (hdb : (x == ("__debug__" : Str)) = false := by decide) (he : starEach (e :: es) X.env = (false, eval e X.env) :: starEach es X.env := by rfl) (hpl : (backTo pos (starEach es X.env)).any (·.1) = false := by rfl) :
    PS X (.Raise (some (.Call (.Name x p) (e :: es) [] pos)) none pos2) (fun _ σ H => tMkO C (spTwo C n1 n2) [] ta σ H fun cls d H' => W cls d σ H') := ps_raise (pos := pos2) hc tk (pmk_oex (e := e) (es := es) (p := p) (pos := pos) T.oex T.iC T.tI F hr hb .nil pass0 hg hm ha hdb he hpl)
/-- .. its reading, behind the arguments' -/
theorem made2 {k1 k2 : Str} {H1 : Hp} {Q : XK} (z1 : k1.length ≤ 100000) (z2 : k2.length ≤ 100000) (w : ∀ d, H1 d = none → Q (.ref C) (some d) (upd H1 d (.xd [(n2, .str k2), (n1, .str k1)]))) :
    ([.str k1, .str k2] : List V).length ≤ 1000 ∧ ∀ a, H1 a = none → spTwo C n1 n2 (.ref a :: ([.str k1, .str k2] ++ [])) (upd H1 a (exo a C none))
      (fun v H2 => v = .non ∧ ∃ (d : Addr) (fs : List (Str × V)), H2 a = some (exo a C (some d)) ∧ H2 d = some (exd d fs) ∧ H1 d = none ∧ Q (.ref C) (some d) (upd (del H2 a) d (.xd fs))) (fun _ _ _ => False) := by
  refine ⟨by show 2 ≤ 1000; omega, fun a ha => ?_⟩
  refine ⟨a, .str k1, .str k2, rfl, upd_same, ⟨_, rfl, z1⟩, ⟨_, rfl, z2⟩, fun d hd hne => ⟨rfl, d, _, ?_, upd_same, ?_, ?_⟩⟩
  · rw [upd_ne (Ne.symm hne)]
    exact upd_same
  · rw [upd_ne hne] at hd
    exact hd
  · rw [upd_ne hne] at hd
    rw [made_two hne ha]
    exact w d hd
end
end XS
namespace PySem.W
open PySem PySem.Spec PySem.Calls PyProof.Rows
section
variable {prog : Program} {w : World} {A : Around} {E : Value → Shared → Prop} {s : Shared} {K : Frag} {x D : Addr} {ox : Obj}
theorem xs_findObj {C : Addr} {od : Option Obj} {name : Str} {a g : Value} (hc : (clsIn K C).isSome = true) (ha : findIn K (.ref C) name = some (some a)) (hg : specialIn K a "__get__" = some (some g)) (ht : takesIn K a = some true) : findObj K C od name = some (.bind g a) := by
  obtain ⟨cd, hc⟩ := Option.isSome_iff_exists.mp hc
  unfold findObj
  rw [hc, Option.bind_some, ha, Option.bind_some]
  simp [hg, ht]
theorem xs_class {Q : Option Value → Shared → Prop} (hga : findIn K (.ref D) "__getattribute__" = some (some (.builtin "BaseException.__getattribute__"))) (hgt : findIn K (.ref D) "__getattr__" = some none) (hsub : subIn K (.ref D) (.type "BaseException") = some true)
    (hdct : hasDictIn K D = true) (ha : findIn K (.ref D) "__class__" = some (some (.builtin "object.__class__")))
    (hn : specialIn K (.builtin "object.__class__") "__get__" = some (some (.builtin "getset_descriptor.__get__"))) (htk : takesIn K (.builtin "object.__class__") = some true) (hm : mroIn K D (.type "object") = some true)
    {odx : Option Obj} (X : K.In s.heap) (I : InstAt s.heap x ox D odx) (h : Q (some (.ref D)) { s with toks := s.toks + 1 }) : wpAny (model prog w) A (getAttr? (.ref x) "__class__") Q E s := by
  have hf : findObj K D odx "__class__" = some (.bind (.builtin "getset_descriptor.__get__") (.builtin "object.__class__")) := xs_findObj (by obtain ⟨cd, hc, _⟩ := any_some hdct; rw [hc]; rfl) ha hn htk
  obtain ⟨hp, g, d, t, os⟩ := s
  have L0 := I.type (M := model prog w)
  have L1 := looks_findIn (M := model prog w) X hga
  have L2 := looks_findIn (M := model prog w) X hgt
  have L3 := looks_find (M := model prog w) X I hf
  have sub : Looks (model prog w) hp (isInstance (.ref x) (.type "BaseException")) true := L0.andThen (looks_subIn X hsub)
  have hx0 : (false && onTheHeap (Value.builtin "BaseException.__getattribute__")) = false := rfl
  have hx2 : (Value.builtin "BaseException.__getattribute__" == Value.builtin "object.__getattribute__") = false := by decide +kernel
  have hx1 : (onTheHeap (Value.ref D) && Value.builtin "BaseException.__getattribute__" == Value.builtin "object.__getattribute__") = false := by rw [hx2]; rfl
  unfold getAttr? getAttrBy? getAttrBy
  refine wpAny_bind (wpAny_mkText (wpAny_bind (wpAny_attempt (wpAny_holding (wpAny_bind (L0.at (wpAny_bind (L1.at ?_))))))))
  show wpAny _ _ (if (onTheHeap (Value.ref D) && Value.builtin "BaseException.__getattribute__" == Value.builtin "object.__getattribute__") = true then _ else _) _ _ _
  rw [hx1, if_neg Bool.false_ne_true]
  unfold getAttrByItsOwn hookBefore
  refine wpAny_bind ?_
  rw [if_pos (show onTheHeap (Value.ref D) = true from rfl)]
  refine L2.at ?_
  refine wpAny_bind (wpAny_attempt (wpAny_holding ?_))
  unfold callGetattribute
  rw [hx0, if_neg Bool.false_ne_true]
  unfold boundAndCalled
  rw [PySem.F.excAttr_ValueError.ga.bind (.ref x)]
  refine wpAny_bind (wpAny_pure ?_)
  show wpAny _ _ (call (.builtin "BaseException.__getattribute__") [.ref x, .str "__class__" t]) _ _ _
  refine wpAny_call (codeAny_call_builtin PySem.F.excAttr_ValueError.ga.plain PySem.F.entry_bexc_ga ?_)
  refine @check_slot (model prog w) _ _ ⟨hp, g, d, t + 1, os⟩ "BaseException.__getattribute__" "BaseException" "__getattribute__" (.ref x) [.str "__class__" t] [] _ (by decide +kernel) (by decide +kernel) sub (PySem.F.args_bexc_ga (.ref x) (.str "__class__" t)) ?_
  unfold Builtin.«object.__getattribute__»
  refine wpAny_bind (wpAny_of_eq (a := ((Value.ref x : Value), [Value.str "__class__" t])) (by first | rfl | (simp only [slotArgs]; rfl)) ?_)
  refine wpAny_bind (wpAny_pure (wpAny_bind (L0.at (wpAny_bind (L3.at ?_)))))
  show wpAny _ _ (holding [Value.builtin "object.__class__"] (call (.builtin "getset_descriptor.__get__") [.builtin "object.__class__", .ref x, .ref D]) >>= ret) _ _ _
  refine wpAny_bind (wpAny_holding (wpAny_call (class_get (s := ⟨hp, g, d, t + 1, os⟩) (ox := ox) (od := odx) X I hm ?_)))
  refine wpAny_pure ?_
  show wpAny _ _ (handedOut (.ref D)) _ _ _
  rw [handedOut_of (v := .ref D) rfl]
  first
    | exact wpAny_pure (wpAny_pure h)
    | exact wpAny_pure h
    | exact wpAny_pure (wpAny_bind (wpAny_pure (wpAny_pure h)))
theorem xs_kitx {odx : Option Obj} (hga : findIn K (.ref D) "__getattribute__" = some (some (.builtin "BaseException.__getattribute__"))) (hgt : findIn K (.ref D) "__getattr__" = some none) (hsub : subIn K (.ref D) (.type "BaseException") = some true) (hdct : hasDictIn K D = true) (ha : findIn K (.ref D) "__class__" = some (some (.builtin "object.__class__")))
    (hn : specialIn K (.builtin "object.__class__") "__get__" = some (some (.builtin "getset_descriptor.__get__"))) (htk : takesIn K (.builtin "object.__class__") = some true) (hm : mroIn K D (.type "object") = some true) :
    KitX K (.ref x) (.ref D) (fun h => InstAt h x ox D odx) where
  ty := fun _ _ _ I => I.type
  it := fun _ _ X _ => by
    obtain ⟨cdD, hcD, _⟩ := any_some hdct
    unfold clsIn at hcD
    split at hcD
    · rename_i c' d' cd' sl' ho
      intro A' Q' E' s' k q
      unfold isType loadHead
      exact wpAny_bind (wpAny_loadPart (k _ _ (X _ _ ho)) (wpAny_pure q))
    · cases hcD
  ne := fun h tp dd its n sl X htp => by
    obtain ⟨cdD, hcD, _⟩ := any_some hdct
    refine Bool.eq_false_iff.mpr fun q => ?_
    have e : D = tp := Value.ref.inj (beq_iff_eq.mp q)
    subst e
    unfold clsIn at hcD
    split at hcD
    · rename_i c' d' cd' sl' ho
      have z := (X _ _ ho).symm.trans htp
      cases z
    · cases hcD
  ca := fun X I k => xs_class hga hgt hsub hdct ha hn htk hm X I k
end
end PySem.W
namespace L2
open PySem PySem.Spec PyProof.Rows
/-- isinstance(e, c), e the exception that the suite holds, with fields of its own -/
def rIsED (K : PySem.W.Frag) (D a : Addr) (cls : Value) (d : Option Addr) : List V → Hp → VK → Prop := fun xs H Q => ∃ (c : V) (cv : Value) (b : Bool) (dd : Addr) (fs : List (Str × V)), cls = .ref D ∧ d = some dd ∧ xs = [.ref a, c] ∧ (∀ u, RelV c u → u = cv) ∧ H dd = some (.xd fs) ∧ PySem.W.kitOne K (.ref D) cv = some b ∧ Q (.bl b) H
theorem call_isED {X : Cx} {a D : Addr} {oe : Obj} {cls : Value} {d : Option Addr} {pn : List (Addr × Obj)} (C : ExcC X.K D) (hz : Zc cls d oe) (hf : ∃ vs, oe.data = .fields vs) : CallR (X.suite a ((a, oe) :: pn)) (.builtin "isinstance") (rIsED X.K D a cls d) := by
  intro pins s σ H xs us Q I r h
  obtain ⟨c, cv, b, dd, fs, rfl, rfl, rfl, hcv, hdd, e, q⟩ := h
  cases r with
  | cons rx rr =>
    cases rr with
    | cons rt rr =>
      cases rr
      cases rx
      have ec := hcv _ rt
      subst ec
      obtain ⟨hget, _⟩ := I.pin (a, oe) (List.mem_append.mpr (.inl List.mem_cons_self))
      obtain ⟨vs, hv⟩ := hf
      have hx : ObjOk X.prog X.w H s.heap dd (.xd fs) := I.hok dd _ hdd
      obtain ⟨mA, hns, hr⟩ := hx
      obtain ⟨od, ho, hl⟩ := lookIn_ns hns
      have J : PySem.W.InstAt s.heap a oe D (some od) := ⟨hget, hz.1, by unfold PySem.W.notCls; rw [hv] <;> rfl, by rw [hz.2]; exact ho⟩
      exact PySem.W.kia_one (PySem.W.xs_kitx C.hg C.hk C.hs C.hd C.ha C.hn C.ht C.hm) I.kIn J e (fun z => nomatch z) fun tk => ⟨.bl b, H, I.kept (t' := tk) fun _ _ z => z, rfl, q⟩
end L2
/-! own text: a dict whose keys are pairs of a mark (is it a bool?) and a key: null, a bool, a number, a text -/
namespace XT
open PySem PySem.Spec PyProof.Rows L2
def fk : V → NestedKey
  | .bl b => .num (if b = true then 1 else 0) | .int i => .num i | .str x => .text x | _ => .none
def isB : V → Bool
  | .bl _ => true | _ => false
def tk (k : V) : NestedKey := .tup [.num (if isB k = true then 1 else 0), fk k]
def keyOk : V → Bool
  | .non | .bl _ | .int _ | .str _ => true | _ => false
theorem tk_inj {a b : V} (ha : keyOk a = true) (hb : keyOk b = true) (h : tk a = tk b) : a = b := by
  unfold tk at h
  injection h with h
  injection h with h1 h2
  injection h2 with h2 _
  injection h1 with h1
  cases a <;> cases b <;> simp_all [fk, isB, keyOk]
  case bl.bl x y => cases x <;> cases y <;> simp_all
theorem tk_depth (k : V) : (tk k).depth ≤ 8 := by
  cases k <;> simp [tk, fk, NestedKey.depth, NestedKey.depthAll]
abbrev Ent := V × Addr × V
abbrev EV : List Ent → List (NestedKey × Addr × Value) → Prop := Paired fun p q => tk p.1 = q.1 ∧ p.2.1 = q.2.1 ∧ RelV p.2.2 q.2.2
def TabO (P : Program) (w : World) (a : Addr) (es : List Ent) : HO := .ext fun h => (a == sysModules) = false ∧ ∃ xs o ds ep, EV es xs ∧ h.get? a = some o ∧ o.ExactDict ∧ o.data = .dict ds ep ∧ ds.toList = xs.map (entryOfKey (nestedKind P w)) ∧ (xs.map (·.1)).Nodup
structure TabAt (P : Program) (w : World) (H : Hp) (a : Addr) (es : List Ent) : Prop where
  at_ : H a = some (TabO P w a es)
  keys : ∀ e ∈ es, keyOk e.1 = true ∧ H e.2.1 = some (.tup [.bl (isB e.1), e.1])
  len : es.length ≤ 1000000
def valT (es : List Ent) (k : V) : Option V := (es.find? fun e => decide (e.1 = k)).map (·.2.2)
def putT (es : List Ent) (k : V) (b : Addr) (v : V) : List Ent := if (valT es k).isSome = true then es.map (fun e => if e.1 = k then (e.1, e.2.1, v) else e) else es ++ [(k, b, v)]
def dropT (es : List Ent) (k : V) : List Ent := es.filter fun e => decide (e.1 ≠ k)
theorem key_is {P : Program} {w : World} {H : Hp} {h : Heap} {b : Addr} {k : V} (ok : HOk P w H h) (hk : keyOk k = true) (e : H b = some (.tup [.bl (isB k), k])) : (nestedKind P w).is h (tk k) b := by
  obtain ⟨_, its, r, o, h1, h2, n, h3⟩ := (show ObjOk P w H h b (.tup [.bl (isB k), k]) from ok b _ e)
  refine ⟨.tup h1 h2 h3 ?_, tk_depth k⟩
  cases r with
  | cons r1 r2 =>
    cases r2 with
    | cons r2 r3 =>
      cases r3
      cases (show _ = Value.bool (isB k) from r1)
      refine .cons (.bool rfl) (.cons ?_ .nil)
      cases k with
      | non => cases (show _ = Value.none from r2); exact .none
      | bl b => cases (show _ = Value.bool b from r2); exact .bool rfl
      | int i => obtain ⟨t, rfl⟩ := r2; exact .int i t
      | str x => obtain ⟨t, rfl⟩ := r2; exact .text x t
      | _ => exact nomatch hk
theorem EV.val {es : List Ent} {xs : List (NestedKey × Addr × Value)} (r : EV es xs) {k : V} (hk : keyOk k = true) (he : ∀ e ∈ es, keyOk e.1 = true) : RelO (valT es k) ((atKey xs (tk k)).map (·.2)) := by
  induction r with
  | nil => exact True.intro
  | @cons p q ps qs h t ih =>
    obtain ⟨h1, _, h2⟩ := h
    have ih := ih fun e m => he e (List.mem_cons_of_mem _ m)
    unfold valT at ih ⊢
    by_cases e : p.1 = k
    · have e' : q.1 = tk k := by rw [← h1, e]
      have b : atKey (q :: qs) (tk k) = some q.2 := by simp [atKey, List.find?_cons, e']
      rw [b, List.find?_cons, show decide (p.1 = k) = true from decide_eq_true e]
      exact h2
    · have e' : ¬ q.1 = tk k := fun z => e (tk_inj (he p (List.mem_cons_self ..)) hk (h1.trans z))
      have b : atKey (q :: qs) (tk k) = atKey qs (tk k) := by simp [atKey, List.find?_cons, e']
      rw [b, List.find?_cons, show decide (p.1 = k) = false from decide_eq_false e]
      exact ih
theorem EV.put {es : List Ent} {xs : List (NestedKey × Addr × Value)} (r : EV es xs) {k : V} {b : Addr} {v : V} {u : Value} (hk : keyOk k = true) (he : ∀ e ∈ es, keyOk e.1 = true) (rv : RelV v u) : EV (putT es k b v) (storedH xs (tk k) b u) := by
  have e : (valT es k).isSome = (atKey xs (tk k)).isSome := by
    rw [(r.val hk he).isSome_eq, Option.isSome_map]
  unfold putT storedH
  rw [e]
  by_cases q : (atKey xs (tk k)).isSome = true
  · rw [if_pos q, if_pos q]
    clear e q
    induction r with
    | nil => exact .nil
    | @cons p q ps qs h t ih =>
      rw [List.map_cons, List.map_cons]
      refine .cons ?_ (ih fun e m => he e (List.mem_cons_of_mem _ m))
      obtain ⟨h1, h2, h3⟩ := h
      unfold putAt
      by_cases e : p.1 = k
      · rw [if_pos e, if_pos (by rw [← h1, e])]
        exact ⟨h1, h2, rv⟩
      · rw [if_neg e, if_neg (fun z => e (tk_inj (he p (List.mem_cons_self ..)) hk (h1.trans z)))]
        exact ⟨h1, h2, h3⟩
  · rw [if_neg q, if_neg q]
    exact Paired.snoc r ⟨rfl, rfl, rv⟩
theorem EV.drop {es : List Ent} {xs : List (NestedKey × Addr × Value)} (r : EV es xs) {k : V} (hk : keyOk k = true) (he : ∀ e ∈ es, keyOk e.1 = true) : EV (dropT es k) (withoutH xs (tk k)) := by
  unfold dropT withoutH
  induction r with
  | nil => exact .nil
  | @cons p q ps qs h t ih =>
    have ih := ih fun e m => he e (List.mem_cons_of_mem _ m)
    obtain ⟨h1, h2, h3⟩ := h
    rw [List.filter_cons, List.filter_cons]
    by_cases e : p.1 = k
    · have a : ¬ decide (p.1 ≠ k) = true := by simp [e]
      have b : ¬ decide (q.1 ≠ tk k) = true := by simp [← h1, e]
      rw [if_neg a, if_neg b]
      exact ih
    · have e' : ¬ q.1 = tk k := fun z => e (tk_inj (he p (List.mem_cons_self ..)) hk (h1.trans z))
      have a : decide (p.1 ≠ k) = true := by simp [e]
      have b : decide (q.1 ≠ tk k) = true := by simp [e']
      rw [if_pos a, if_pos b]
      exact .cons ⟨h1, h2, h3⟩ ih
theorem TabAt.have {P : Program} {w : World} {H : Hp} {h : Heap} {a : Addr} {es : List Ent} (T : TabAt P w H a es) (ok : HOk P w H h) : (a == sysModules) = false ∧ ∃ xs, EV es xs ∧ h.DictOfH (nestedKind P w) a xs := by
  obtain ⟨⟨hs, xs, o, ds, ep, r, h1, h2, h3, h4, h5⟩, _, _⟩ := (show ObjOk P w H h a (TabO P w a es) from ok a _ T.at_)
  refine ⟨hs, xs, r, o, ds, ep, h1, h2, h3, h4, ?_, h5⟩
  have all : ∀ {l : List Ent} {m : List (NestedKey × Addr × Value)}, EV l m → (∀ e ∈ l, keyOk e.1 = true ∧ H e.2.1 = some (.tup [.bl (isB e.1), e.1])) → ∀ x ∈ m, (nestedKind P w).is h x.1 x.2.1 := by
    intro l m q
    induction q with
    | nil => intro _ x hx; exact nomatch hx
    | @cons p q ps qs hq t ih =>
      intro hl x hx
      rcases List.mem_cons.mp hx with e | hx
      · subst e
        have := hl p (List.mem_cons_self ..)
        rw [← hq.1, ← hq.2.1]
        exact key_is ok this.1 this.2
      · exact ih (fun e m => hl e (List.mem_cons_of_mem _ m)) x hx
  exact all r T.keys
theorem tab_new {P : Program} {w : World} {H : Hp} {h : Heap} {a : Addr} {es : List Ent} {xs : List (NestedKey × Addr × Value)} (hs : (a == sysModules) = false) (r : EV es xs) (d : h.DictOfH (nestedKind P w) a xs) : ObjOk P w H h a (TabO P w a es) := by
  obtain ⟨o, ds, ep, h1, h2, h3, h4, _, h5⟩ := d
  exact ⟨⟨hs, xs, o, ds, ep, r, h1, h2, h3, h4, h5⟩, ⟨o, h1⟩, fun g1 g2 ⟨_, xs', o', ds', ep', r', k1, k2⟩ st => ⟨hs, xs', o', ds', ep', r', st _ k1, k2⟩⟩
theorem room_in1 {A : Around} (hu : A.units + 64 < cLine) {P : Program} {w : World} : (nestedKind P w).room A.in1 := by
  show A.in1.units + 8 < cLine
  have : A.in1.units = A.units + 1 := by first | rfl | simp [Around.in1]
  omega
/-! ### the rules -/
def KeyAt (H : Hp) (b : Addr) (k : V) : Prop := keyOk k = true ∧ H b = some (.tup [.bl (isB k), k])
theorem TabAt.put {P : Program} {w : World} {H : Hp} {a b : Addr} {es : List Ent} {k v : V} (T : TabAt P w H a es) (hk : KeyAt H b k) (hl : es.length < 1000000) : TabAt P w (upd H a (TabO P w a (putT es k b v))) a (putT es k b v) := by
  have ne : ∀ {c : Addr} {ys : List V}, H c = some (.tup ys) → c ≠ a := fun {c ys} e z => by
    rw [z, T.at_] at e
    cases e
  refine ⟨upd_same, fun e he => ?_, ?_⟩
  · have all : keyOk e.1 = true ∧ H e.2.1 = some (.tup [.bl (isB e.1), e.1]) := by
      unfold putT at he
      split at he
      · obtain ⟨e0, h0, e1⟩ := List.mem_map.mp he
        have := T.keys e0 h0
        split at e1
        · subst e1
          exact this
        · subst e1
          exact this
      · rcases List.mem_append.mp he with he | he
        · exact T.keys e he
        · rw [List.mem_singleton] at he
          subst he
          exact hk
    exact ⟨all.1, by rw [upd_ne (ne all.2)]; exact all.2⟩
  · unfold putT
    split
    · rw [List.length_map]
      exact T.len
    · rw [List.length_append, List.length_singleton]
      omega
theorem TabAt.drop {P : Program} {w : World} {H : Hp} {a : Addr} {es : List Ent} {k : V} (T : TabAt P w H a es) : TabAt P w (upd H a (TabO P w a (dropT es k))) a (dropT es k) := by
  have ne : ∀ {c : Addr} {ys : List V}, H c = some (.tup ys) → c ≠ a := fun {c ys} e z => by
    rw [z, T.at_] at e
    cases e
  refine ⟨upd_same, fun e he => ?_, Nat.le_trans (List.length_filter_le _ _) T.len⟩
  have := T.keys e (List.mem_filter.mp he).1
  exact ⟨this.1, by rw [upd_ne (ne this.2)]; exact this.2⟩
theorem TabAt.mono {P : Program} {w : World} {H H' : Hp} {a : Addr} {es : List Ent} (T : TabAt P w H a es) (h1 : H' a = H a) (h2 : ∀ c ys, H c = some (.tup ys) → H' c = some (.tup ys)) : TabAt P w H' a es :=
  ⟨h1.trans T.at_, fun e he => ⟨(T.keys e he).1, h2 _ _ (T.keys e he).2⟩, T.len⟩
theorem sz_ok {es : List Ent} {xs : List (NestedKey × Addr × Value)} (r : EV es xs) (h : es.length ≤ 1000000) : xs.length ≤ sizeLine := by
  rw [← Paired.length r, sizeLine_eq]
  omega
section
variable {X : Cx} {o i value : Expr} {pos pos' tpos : Pos} {td ty tv : TE}
def tTNew (P : Program) (w : World) : TE := fun _ H Q => ∀ p, H p = none → Q (.ref p) (upd H p (TabO P w p []))
def tTGet (P : Program) (w : World) (td ty : TE) : TE := fun σ H Q => td σ H fun x H1 => ty σ H1 fun y H2 => ∃ a b k es v, x = .ref a ∧ y = .ref b ∧ TabAt P w H2 a es ∧ KeyAt H2 b k ∧ valT es k = some v ∧ Q v H2
def tTIn (P : Program) (w : World) (ty td : TE) : TE := fun σ H Q => ty σ H fun y H1 => td σ H1 fun x H2 => ∃ a b k es, x = .ref a ∧ y = .ref b ∧ TabAt P w H2 a es ∧ KeyAt H2 b k ∧ Q (.bl (valT es k).isSome) H2
def sTPut (P : Program) (w : World) (td ty tv : TE) : TS := fun D σ H => tv σ H fun v H1 => td σ H1 fun x H2 => ty σ H2 fun y H3 => ∃ a b k es, x = .ref a ∧ y = .ref b ∧ TabAt P w H3 a es ∧ KeyAt H3 b k ∧ D.nx σ (upd H3 a (TabO P w a (putT es k b v)))
def sTDel (P : Program) (w : World) (td ty : TE) : TS := fun D σ H => td σ H fun x H1 => ty σ H1 fun y H2 => ∃ a b k es, x = .ref a ∧ y = .ref b ∧ TabAt P w H2 a es ∧ KeyAt H2 b k ∧ (valT es k).isSome = true ∧ D.nx σ (upd H2 a (TabO P w a (dropT es k)))
theorem pe_tnew : PE X (.Dict [] [] pos) (tTNew X.prog X.w) := ⟨fun pins s σ H Q I h =>
  wpAny_Dict_empty ⟨.ref s.heap.objs.size, _, I.laid (a := s.heap.objs.size) (o := TabO X.prog X.w s.heap.objs.size []) (t' := s.toks) (fun _ _ q => Heap.get?_push_of_some _ q) (Nat.le_refl _)
    (tab_new (beq_eq_false_iff_ne.mpr (Ne.symm (Nat.ne_of_lt I.big))) .nil (Heap.DictOfH.new _)), rfl, h _ (I.hok.fresh (Nat.le_refl _))⟩⟩
theorem pe_tget (hu : X.A.units + 64 < cLine) (ho : PE X o td) (hi : PE X i ty) (hs : NoSl i) : PE X (.Subscript o i pos) (tTGet X.prog X.w td ty) := by
  refine ⟨fun pins s σ H Q I h => ?_⟩
  refine subD_of PySem.F.slot_dict_getitem.lookup hs (thn (ho.run pins s σ H _ I h) fun u s1 ⟨x, H1, I1, rx, q1⟩ => thn (hi.run pins s1 σ H1 _ I1 q1) fun iv s2 ⟨y, H2, I2, ry, a, b, k, es, v, ex, ey, T, hk, hv, q2⟩ => ?_)
  subst ex ey
  obtain rfl : u = Value.ref a := rx
  obtain rfl : iv = Value.ref b := ry
  obtain ⟨hd, xs, r, dd⟩ := T.have I2.hok
  obtain ⟨w', hw, rw'⟩ := RelO.some_of (v := v) (o := (atKey xs (tk k)).map (·.2)) (by rw [← hv]; exact r.val hk.1 fun e m => (T.keys e m).1)
  obtain ⟨p, hp, hp2⟩ := Option.map_eq_some_iff.mp hw
  refine ⟨dd.typeIs, wpAny_getItem_heap (room_in1 hu) (key_is I2.hok hk.1 hk.2) dd hp ?_⟩
  rw [hp2]
  exact ⟨v, H2, I2.tok _, rw', q2⟩
theorem pc_tin (hu : X.A.units + 64 < cLine) (hi : PE X i ty) (ho : PE X o td) : PC X .In i o (tTIn X.prog X.w ty td) := by
  refine ⟨fun pins s σ H Q I h => ?_⟩
  refine thn (hi.run pins s σ H _ I h) fun iv s1 ⟨y, H1, I1, ry, q1⟩ => thn (ho.run pins s1 σ H1 _ I1 q1) fun u s2 ⟨x, H2, I2, rx, a, b, k, es, ex, ey, T, hk, q2⟩ => ?_
  subst ex ey
  obtain rfl : u = Value.ref a := rx
  obtain rfl : iv = Value.ref b := ry
  obtain ⟨hd, xs, r, dd⟩ := T.have I2.hok
  refine wpAny_in_heap (room_in1 hu) (key_is I2.hok hk.1 hk.2) hd dd ?_
  have q := (r.val hk.1 fun e m => (T.keys e m).1).isSome_eq
  rw [Option.isSome_map] at q
  rw [← q]
  exact ⟨.bl (valT es k).isSome, H2, I2.tok _, rfl, q2⟩
theorem ps_tput (hu : X.A.units + 64 < cLine) (ho : PE X o td) (hi : PE X i ty) (hv : PE X value tv) (hs : swapsWith value (some (.Subscript o i pos')) pos.line X.env = pure false) :
    PS X (.Assign [.Subscript o i pos'] value pos) (sTPut X.prog X.w td ty tv) := by
  refine ⟨fun pins s σ H D I h => ?_⟩
  refine wpAny_Assign_Subscript (thn (hv.run pins s σ H _ I h) fun r s1 ⟨v, H1, I1, rv, q1⟩ => thn (ho.run pins s1 σ H1 _ I1 q1) fun u s2 ⟨x, H2, I2, rx, q2⟩ => thn (hi.run pins s2 σ H2 _ I2 q2) fun iv s3 ⟨y, H3, I3, ry, a, b, k, es, ex, ey, T, hk, q3⟩ => ?_) hs
  subst ex ey
  obtain rfl : u = Value.ref a := rx
  obtain rfl : iv = Value.ref b := ry
  obtain ⟨hd, xs, rr, dd⟩ := T.have I3.hok
  refine wpAny_setItem_heap (hsz := sz_ok rr T.len) (room_in1 hu) (key_is I3.hok hk.1 hk.2) dd fun h' dd' hsb => ?_
  have he : ∃ q, h'.get? a = some q := let ⟨q, _, _, hq, _⟩ := dd'; ⟨q, hq⟩
  exact ⟨σ, _, d_write I3 (by rw [T.at_]; exact True.intro) hsb he (tab_new hd (rr.put hk.1 (fun e m => (T.keys e m).1) rv) dd'), q3⟩
theorem ps_tdel (hu : X.A.units + 64 < cLine) (ho : PE X o td) (hi : PE X i ty) : PS X (.Delete [.Subscript o i tpos] pos) (sTDel X.prog X.w td ty) := by
  refine ⟨fun pins s σ H D I h => ?_⟩
  refine wpAny_Delete (wpAny_deleteEach_cons (wpAny_delete_Subscript (thn (ho.run pins s σ H _ I h) fun u s1 ⟨x, H1, I1, rx, q1⟩ => thn (hi.run pins s1 σ H1 _ I1 q1) fun iv s2 ⟨y, H2, I2, ry, a, b, k, es, ex, ey, T, hk, hv, q2⟩ => ?_)))
  subst ex ey
  obtain rfl : u = Value.ref a := rx
  obtain rfl : iv = Value.ref b := ry
  obtain ⟨hd, xs, rr, dd⟩ := T.have I2.hok
  have he1 : ∀ e ∈ es, keyOk e.1 = true := fun e m => (T.keys e m).1
  obtain ⟨p, hp⟩ : ∃ p, atKey xs (tk k) = some p := by
    have q := (rr.val hk.1 he1).isSome_eq
    rw [Option.isSome_map, hv] at q
    exact Option.isSome_iff_exists.mp q.symm
  refine wpAny_delItem_heap (hsz := sz_ok rr T.len) (room_in1 hu) (key_is I2.hok hk.1 hk.2) hd dd hp fun h' dd' hsb => wpAny_deleteEach_nil ?_
  have he : ∃ q, h'.get? a = some q := let ⟨q, _, _, hq, _⟩ := dd'; ⟨q, hq⟩
  exact ⟨σ, _, d_write I2 (by rw [T.at_]; exact True.intro) hsb he (tab_new hd (rr.drop hk.1 he1) dd'), q2⟩
/-- len(d) -/
theorem call_len_tab : CallR X (.builtin "len") (fun vs H Q => ∃ a es, vs = [.ref a] ∧ TabAt X.prog X.w H a es ∧ Q (.int (es.length : Nat)) H) := by
  intro pins s σ H vs us Q I rv h
  obtain ⟨a, es, rfl, T, q⟩ := h
  obtain ⟨u, rfl, ru⟩ := rv.one
  obtain rfl : u = Value.ref a := ru
  obtain ⟨hd, xs, r, dd⟩ := T.have I.hok
  have hz := sz_ok r T.len
  refine call_len_dictH hd dd (by rw [sizeLine_eq] at hz; omega) ?_
  rw [← Paired.length r]
  exact ⟨.int _, H, I.tok _, ⟨_, rfl⟩, q⟩
end
end XT
/-! own text: the values of such a dict, as a list -/
namespace XT
open PySem PySem.Spec PyProof.Rows L2
def ViewO (d v : Addr) : HO := .ext fun h => h.IsValuesView v d
theorem EV.vals {es : List Ent} {xs : List (NestedKey × Addr × Value)} (r : EV es xs) : Vals (es.map (·.2.2)) (xs.map (·.2.2)) := by
  induction r with
  | nil => exact .nil
  | cons h t ih => exact .cons h.2.2 ih
section
variable {prog : Program} {w : World} {A : Around} {E : Value → Shared → Prop} {s : Shared}
theorem meets_vals (d : Addr) (hd : (d == sysModules) = false) :
    MeetsIn prog w (Builtin.«dict.values» ⟨[.ref d], []⟩) (fun _ R s => s.TypeIs (.ref d) "dict" ∧
      R (.ok (.ret (.ref s.heap.objs.size))) { s with heap := s.heap.push { cls := .type "dict_values", data := .fields #[.ref d] } }) :=
  .of_wp fun A R s ⟨hm, h⟩ => by
    refine wpAny_bind ?_
    unfold Builtin.Dict.noArgs
    refine wpAny_bind (wpAny_notOrdered_dict hm ?_)
    show wpAny _ _ (pure d) _ _ s
    refine wpAny_pure ?_
    show wpAny _ _ (Builtin.Dict.showsAll d >>= _) _ _ s
    unfold Builtin.Dict.showsAll
    rw [if_neg (by rw [hd]; exact Bool.false_ne_true)]
    refine wpAny_bind (wpAny_pure ?_)
    exact wpAny_bind (wpAny_newObj_type (wpAny_pure ⟨_, rfl, h⟩))
end
section
variable {X : Cx} {o : Expr} {to : TE} {apos cpos : Pos}
def tTVals (P : Program) (w : World) (to : TE) : TE := fun σ H Q => to σ H fun x H1 => ∃ a es, x = .ref a ∧ TabAt P w H1 a es ∧ ∀ v, H1 v = none → Q (.ref v) (upd H1 v (ViewO a v))
theorem pe_tvals (ho : PE X o to) (hbase : attributeBase o "values" X.env (eval o X.env) = eval o X.env := by rfl) (hline : (apos.endLine == cpos.line) = true := by rfl) : PE X (.Call (.Attribute o "values" apos) [] [] cpos) (tTVals X.prog X.w to) := by
  refine ⟨fun pins s σ H Q I h => ?_⟩
  refine wpAny_Call_method0_late hbase hline (thn (ho.run pins s σ H _ I h) fun v s1 ⟨x, H1, I1, r1, a, es, ex, T, q1⟩ => ?_)
  subst ex
  obtain rfl : v = Value.ref a := r1
  obtain ⟨hd, xs, r, dd⟩ := T.have I1.hok
  refine ⟨"dict", "dict.values", PySem.F.plainAttrs_dict, PySem.F.slot_dict_values, PySem.F.type_dict_values, dd.typeIs, fun b e => ?_, Calls.callWith_builtin rfl (PySem.evalArgs_none ?_)⟩
  · cases e
    obtain ⟨ob, _, _, h1, h2, _⟩ := dd
    exact ⟨ob, h1, h2.2.1⟩
  refine call_meetsIn PySem.F.slot_dict_values dd.typeIs PySem.F.entry_dict_values (PySem.F.args_dict_values_1 _) (meets_vals a hd) ⟨dd.typeIs, ?_⟩
  have hv : (s1.heap.push { cls := .type "dict_values", data := .fields #[.ref a] }).IsValuesView s1.heap.objs.size a := ⟨_, Heap.get?_push_size _ rfl, rfl, rfl⟩
  refine ⟨.ref s1.heap.objs.size, _, I1.laid (a := s1.heap.objs.size) (o := ViewO a s1.heap.objs.size) (t' := s1.toks) (fun _ _ q => Heap.get?_push_of_some _ q) (Nat.le_refl _) ?_, rfl, q1 _ (I1.hok.fresh (Nat.le_refl _))⟩
  exact ⟨hv, ⟨_, Heap.get?_push_size _ rfl⟩, fun g1 g2 ⟨ob, k1, k2⟩ st => ⟨ob, st _ k1, k2⟩⟩
/-- list(d.values()) -/
theorem call_list_vals (hc : X.calm = true) : CallR X (.type "list") (fun vs H Q => ∃ v a es, vs = [.ref v] ∧ H v = some (ViewO a v) ∧ TabAt X.prog X.w H a es ∧ ∀ l, H l = none → Q (.ref l) (upd H l (.lst (es.map (·.2.2))))) := by
  intro pins s σ H vs us Q I rv h
  obtain ⟨v, a, es, rfl, hv, T, q⟩ := h
  obtain ⟨u, rfl, ru⟩ := rv.one
  obtain rfl : u = Value.ref v := ru
  obtain ⟨hd, xs, r, ob, ds, ep, h1, h2, h3, h4, h5, h6⟩ := T.have I.hok
  obtain ⟨hview, _, _⟩ := (show ObjOk X.prog X.w H s.heap v (ViewO a v) from I.hok v _ hv)
  have hview : s.heap.IsValuesView v a := hview
  have hsz : ds.size = xs.length := by
    rw [← Array.length_toList, h4, List.length_map]
  have hz := sz_ok r T.len
  refine W.kdl_call PySem.KdlSrc.rawValues (I.ok.hd hc) ⟨hview, ob, h1, h2, h3⟩ (by omega) fun h' tk acc' c' hk hS hacc => ?_
  have ea : acc'.toList = xs.map (·.2.2) := by
    refine List.ext_getElem? fun j => ?_
    by_cases hj : j < ds.size
    · have hj' : j < acc'.size := by rw [hacc.1]; exact hj
      obtain ⟨hi, e⟩ := hacc.2 j acc'[j] (by rw [Array.getElem?_eq_getElem hj'])
      have e2 : ds.toList[j]? = (xs.map (entryOfKey (nestedKind X.prog X.w)))[j]? := by rw [h4]
      rw [List.getElem?_map, Array.getElem?_toList, Array.getElem?_eq_getElem hj] at e2
      rw [Array.getElem?_toList, Array.getElem?_eq_getElem hj', e, List.getElem?_map]
      cases hx : xs[j]? with
      | none => rw [hx] at e2; cases e2
      | some x =>
        rw [hx] at e2
        rw [Option.some.inj e2]
        rfl
    · rw [List.getElem?_eq_none (by rw [Array.length_toList, hacc.1]; omega), List.getElem?_eq_none (by rw [List.length_map]; omega)]
  refine ⟨.ref s.heap.objs.size, _, I.laid (t' := tk) hk (Nat.le_refl _) (show ObjOk X.prog X.w _ h' _ (.lst (es.map (·.2.2))) from ⟨?_, acc'.toList, c', ?_, ?_⟩), rfl, q _ (I.hok.fresh (Nat.le_refl _))⟩
  · rw [List.length_map, Paired.length r]
    exact hz
  · rw [ea]
    exact r.vals
  · rw [Array.toArray_toList]
    exact hS
end
end XT
/-! own text: an own exception with an __init__ of its own as a value that is kept -/
namespace XE
open PySem PySem.Spec PyProof.Rows L2
/-- the exception at a, of the class at C, its dict at d -/
structure ExAt (H : Hp) (a C d : Addr) (fs : List (Str × V)) : Prop where
  e : H a = some (exo a C (some d))
  d : H d = some (exd d fs)
def tMkE (C : Addr) (sp : Sp) (dvs : List V) (ta : TA) : TE := fun σ H Q => ta σ H fun vs H1 => vs.length ≤ 1000 ∧ ∀ a, H1 a = none → sp (.ref a :: (vs ++ dvs)) (upd H1 a (exo a C none)) (fun v H2 => v = .non ∧ Q (.ref a) H2) (fun _ _ _ => False)
section
variable {X : Cx} {e : Expr} {es : List Expr} {ta : TA} {te : TE} {p pos : Pos}
theorem pe_mkE {CX : CXT} {x : Str} {C fI : Addr} {k : Nat} {fd : FuncData} {ps : List Str} {sp : Sp} {ds : List Value} {dvs : List V} (T : OexC X.K C) (iC : PySem.W.findIn X.K (.ref C) "__init__" = some (some (.ref fI))) (tI : PySem.W.typeIn X.K (.ref fI) = some (.type "function"))
    (F1 : FnOk X.prog X.w X.K X.mg X.base CX k fI fd ps sp) (hr : Room (k + 1) X.A) (hb : Binds X.K fd ps ds) (hd : Vals dvs ds) (hx : Passes CX X (fun _ _ _ => False)) (hg : Gl X x) (hm : X.mg x = some (.ref C)) (ha : PA X (e :: es) ta)
    (hdb : (x == ("__debug__" : Str)) = false := by decide) (he : starEach (e :: es) X.env = (false, eval e X.env) :: starEach es X.env := by rfl) (hpl : (backTo pos (starEach es X.env)).any (·.1) = false := by rfl) :
    PE X (.Call (.Name x p) (e :: es) [] pos) (tMkE C sp dvs ta) := by
  refine ⟨fun pins s σ H Q I h => ?_⟩
  obtain ⟨nm, q, N, bs, bm, sn, sub, ab, col, dd, k0, k1, k2, k3, k5, hC, hbm⟩ := T.cls
  refine wpAny_Call_Name_kw (ld_glob I hg hm ?_ hdb)
  refine PySem.W.callWith_K (h₀ := X.base) I.ok.mod.kin T.kC (thn (ha.run pos pins s σ H _ I h) fun us s1 ⟨vs, H1, I1, r1, hz, q1⟩ => ⟨I1.kIn, ?_⟩) he hpl
  show wpAny _ _ (call (.ref C) us) _ _ _
  obtain ⟨hp, g, dr, tk, os⟩ := s1
  have hsz : hp.objs.size ≤ hp.objs.size + 1 := Nat.le_succ _
  have hn : H1 (hp.objs.size + 1) = none := I1.hok.fresh hsz
  have hq := q1 (hp.objs.size + 1) hn
  have kk : ∀ b o, hp.get? b = some o → ((hp.push (PySem.W.kdv_tup us)).push (PySem.HandSPX.excO C hp.objs.size)).get? b = some o := fun b o e => Heap.get?_push_of_some _ (Heap.get?_push_of_some _ e)
  have hget : ((hp.push (PySem.W.kdv_tup us)).push (PySem.HandSPX.excO C hp.objs.size)).get? (hp.objs.size + 1) = some (PySem.HandSPX.excO C hp.objs.size) := by heap_get
  have I2 : Inv X pins σ (upd H1 (hp.objs.size + 1) (exo (hp.objs.size + 1) C none)) ⟨(hp.push (PySem.W.kdv_tup us)).push (PySem.HandSPX.excO C hp.objs.size), g, dr, tk, os⟩ :=
    I1.laid (t' := tk) (a := hp.objs.size + 1) (o := exo (hp.objs.size + 1) C none) (h' := (hp.push (PySem.W.kdv_tup us)).push (PySem.HandSPX.excO C hp.objs.size)) kk hsz (exo_ok hget)
  have r2 : Vals (V.ref (hp.objs.size + 1) :: (vs ++ dvs)) (Value.ref (hp.objs.size + 1) :: (us ++ ds)) := .cons rfl (r1.append hd)
  have hl : (Value.ref (hp.objs.size + 1) :: us ++ ds).length = ps.length := by
    have e := r2.length
    rw [F1.len _ _ _ _ hq] at e
    exact e.symm
  have hus : us.length ≤ sizeLine := by
    rw [← Paired.length r1, sizeLine_eq]
    omega
  refine wpAny_call (PySem.HandSPX.call_own F.excBase_ValueError (fun Y => PySem.HandSPX.refsVE_contains Y bm hbm) (I1.kIn _ _ hC) (PySem.W.looks_findIn I1.kIn iC) (fun self => PySem.W.bind_fn I1.kIn self tI) hus
    (codeAny_mono (F1.run _ X.stack _ _ ⟨Value.ref (hp.objs.size + 1) :: us, []⟩ (Value.ref (hp.objs.size + 1) :: (us ++ ds)) _ _ (fun _ _ _ => False) (hr.make C us []) (I2.env0.make C us []) (hb _ (Value.ref (hp.objs.size + 1) :: us) I2.kIn hl) r2 hq) fun r s' hq' => ?_))
  cases r with
  | error er => exact hx pins σ _ _ er s' I2 hq'
  | ok fl =>
    cases fl with
    | ret u =>
      obtain ⟨v, H', I3, rv, ev, q3⟩ := I2.after hq'
      subst ev
      exact ⟨rv, ⟨V.ref (hp.objs.size + 1), H', I3, rfl, q3⟩⟩
    | next => exact False.elim hq'
    | brk => exact False.elim hq'
    | cont => exact False.elim hq'
/-- e.n -/
def tXo (C : Addr) (n : Str) (te : TE) : TE := fun σ H Q => te σ H fun x H1 => ∃ a d fs v, x = .ref a ∧ ExAt H1 a C d fs ∧ fs.lookup n = some v ∧ Q v H1
theorem pe_xo {C : Addr} {n : Str} (T : XfC X.K C) (hno : PySem.W.findIn X.K (.ref C) n = some none) (he : PE X e te) (hb : attributeBase e n X.env (eval e X.env) = eval e X.env := by rfl) : PE X (.Attribute e n pos) (tXo C n te) := by
  refine ⟨fun pins s σ H Q I h => ?_⟩
  refine attr_of hb (thn (he.run pins s σ H _ I h) fun u s1 ⟨x, H1, I1, rx, a, d, fs, v, ex, T1, l, q⟩ => ?_)
  subst ex
  obtain rfl : u = Value.ref a := rx
  obtain ⟨t1, hoe⟩ := exo_at I1.hok T1.e
  obtain ⟨mA, hns, hr⟩ := exd_at I1.hok T1.d
  obtain ⟨od, ho, hl⟩ := lookIn_ns hns
  obtain ⟨u, hu, ru⟩ := RelO.some_of (v := v) (o := mA n) (by rw [← l]; exact hr n)
  have J : PySem.W.InstAt s1.heap a _ C (some od) := ⟨hoe, rfl, rfl, ho⟩
  exact HandSPX.exc_get I1.kIn J T.ga T.gg T.exC (PySem.W.findObj_own T.hdC hno rfl (by rw [hl, hu])) (handed_of ru) ⟨v, H1, I1.tok _, ru, q⟩
/-- isinstance(e, c) -/
theorem call_isEO {D : Addr} (C : ExcC X.K D) : CallR X (.builtin "isinstance") (fun xs H Q => ∃ a d fs c cv b, xs = [.ref a, c] ∧ ExAt H a D d fs ∧ (∀ u, RelV c u → u = cv) ∧ PySem.W.kitOne X.K (.ref D) cv = some b ∧ Q (.bl b) H) := by
  intro pins s σ H xs us Q I r h
  obtain ⟨a, d, fs, c, cv, b, rfl, T1, hcv, e, q⟩ := h
  cases r with
  | cons rx rr =>
    cases rr with
    | cons rt rr =>
      cases rr
      cases rx
      have ec := hcv _ rt
      subst ec
      obtain ⟨t1, hoe⟩ := exo_at I.hok T1.e
      obtain ⟨mA, hns, hr⟩ := exd_at I.hok T1.d
      obtain ⟨od, ho, hl⟩ := lookIn_ns hns
      have J : PySem.W.InstAt s.heap a _ D (some od) := ⟨hoe, rfl, rfl, ho⟩
      exact PySem.W.kia_one (PySem.W.xs_kitx C.hg C.hk C.hs C.hd C.ha C.hn C.ht C.hm) I.kIn J e (fun z => nomatch z) fun tk => ⟨.bl b, H, I.kept (t' := tk) fun _ _ z => z, rfl, q⟩
end
end XE
/-! own text: del xs[lo:hi] of a list -/
namespace XD
open PySem PySem.Spec PyProof.Rows L2
open Sem (wp)
theorem keep_out {α : Type} (sel : Nat → Bool) (a c : Nat) (hs : ∀ k, sel k = (decide (a ≤ k) && decide (k < c))) : ∀ (xs : List α) (n : Nat),
    (xs.zipIdx n).filterMap (fun p => if sel p.2 = true then none else some p.1) = xs.take (a - n) ++ xs.drop (max (c - n) (a - n))
  | [], n => by simp
  | x :: xs, n => by
    rw [List.zipIdx_cons, List.filterMap_cons, keep_out sel a c hs xs (n + 1)]
    have hsn := hs n
    by_cases h1 : a ≤ n
    · by_cases h2 : n < c
      · rw [show sel n = true by rw [hsn]; simp [h1, h2]]
        rw [show a - n = 0 by omega, show a - (n + 1) = 0 by omega]
        simp only [if_true, List.take_zero, List.nil_append]
        rw [show max (c - n) 0 = max (c - (n + 1)) 0 + 1 by omega, List.drop_succ_cons]
      · rw [show sel n = false by rw [hsn]; simp [h2]]
        rw [show a - n = 0 by omega, show a - (n + 1) = 0 by omega]
        simp only [List.take_zero, List.nil_append]
        rw [show max (c - n) 0 = 0 by omega, show max (c - (n + 1)) 0 = 0 by omega]
        simp
    · rw [show sel n = false by rw [hsn]; simp [h1]]
      simp only
      rw [show a - n = (a - (n + 1)) + 1 by omega, List.take_succ_cons, show max (c - n) (a - (n + 1) + 1) = max (c - (n + 1)) (a - (n + 1)) + 1 by omega, List.drop_succ_cons]
      rfl
section
variable {prog : Program} {w : World} {A : Around} {E : Value → Shared → Prop} {s : Shared}
set_option maxRecDepth 100000 in
theorem delItem_cut {l sl : Addr} {its : Array Value} {n : Nat} {vl vu : Value} {lo hi : Option Int} {a c : Nat} {Q : Unit → Shared → Prop}
    (e : s.heap.get? l = some { cls := .type "list", data := .seq its n }) (hs : s.heap.IsSliceOf sl vl vu .none) (pl : IsPart vl lo) (pu : IsPart vu hi) (hb : sliceBounds lo hi none its.size = ((a : Int), (c : Int), 1))
    (hz : its.size ≤ sizeLine) (h : ∀ f : Array Value → Array Value, f its = (its.toList.take a ++ its.toList.drop (max c a)).toArray → Q () { s with heap := s.heap.update l (Obj.mapSeq f) }) :
    wpAny (model prog w) A (delItem (.ref l) (.ref sl)) Q E s := by
  have tl : s.TypeIs (.ref l) "list" := ⟨_, e, rfl⟩
  obtain ⟨os, hos, hcs, hds⟩ := id hs
  have ts : s.TypeIs (.ref sl) "slice" := ⟨os, hos, hcs⟩
  have one : ¬ ((rawPart none == rawInt 0) = true) := Bool.false_ne_true
  refine wpAny_delItem_slot tl (by decide) F.slot_list_delitem (wpAny_call_entry F.slot_list_delitem tl F.entry_list_delitem ?_ (F.args_list_delitem_2 _ _))
  show wpAny _ _ (Builtin.List.listSubscript? (.ref sl) >>= _) _ _ s
  refine wpAny_bind ?_
  unfold Builtin.List.listSubscript?
  refine wpAny_bind (wpAny_specialOf ts slice_no_index ?_)
  simp only [Option.isNone_none, if_true]
  refine wpAny_pure ?_
  show wpAny _ _ (typeOf (.ref sl) >>= _) _ _ s
  refine wpAny_bind (wpAny_typeOf ts ?_)
  first
    | rw [if_neg (by decide)]
    | refine PySem.W.KFB.if_not (by decide) ?_
  rw [listSliceParts_eq]
  refine wpAny_bind (wpAny_bind (wpAny_field hos hds (x := .none) rfl (wpAny_bind (wpAny_listPart .none ?_))))
  rw [if_neg one]
  refine wpAny_bind (wpAny_field hos hds (x := vl) rfl (wpAny_bind (wpAny_listPart pl ?_)))
  refine wpAny_bind (wpAny_field hos hds (x := vu) rfl (wpAny_bind (wpAny_listPart pu (wpAny_pure ?_))))
  unfold Builtin.List.listItems
  refine wpAny_bind (wpAny_bind (wpAny_seqItems e rfl (wpAny_pure ?_)))
  refine wpAny_bind (wpAny_of_eq ((sliceIndices_raw lo hi none its.size (by simp)).trans (congrArg (pure : Int × Int × Int → Sem (Int × Int × Int)) hb)) ?_)
  refine wpAny_bind (wpAny_rule ?_)
  unfold Builtin.List.listUpdate
  have cut : ∀ sel : Nat → Bool, (∀ k, sel k = (decide (a ≤ k) && decide (k < c))) → (its.toList.zipIdx.filterMap fun p => if sel p.2 = true then none else some p.1).toArray = (its.toList.take a ++ its.toList.drop (max c a)).toArray := fun sel hsel => by
    rw [keep_out sel a c hsel its.toList 0]
    rfl
  have hsel : ∀ k : Nat, (if (1 : Int) > 0 then (decide ((a : Int) ≤ k) && decide ((k : Int) < c) && ((k : Int) - a) % 1 == 0) else (decide ((c : Int) < k) && decide ((k : Int) ≤ a) && ((a : Int) - k) % (-1) == 0)) = (decide (a ≤ k) && decide (k < c)) := fun k => by
    rw [if_pos (by decide)]
    simp
  have hcut := cut (fun k => if (1 : Int) > 0 then (decide ((a : Int) ≤ k) && decide ((k : Int) < c) && ((k : Int) - a) % 1 == 0) else (decide ((c : Int) < k) && decide ((k : Int) ≤ a) && ((a : Int) - k) % (-1) == 0)) hsel
  refine wpAny_bind (wpAny_updateSeq (hz := hz) (_hz' := ?z) e rfl (wpAny_bind (wpAny_letGo ?_)))
  · exact wpAny_pure ⟨.none, rfl, h _ hcut⟩
  case z =>
    refine Nat.le_trans (Nat.le_of_eq (congrArg Array.size hcut)) ?_
    rw [List.size_toArray, List.length_append, List.length_take, List.length_drop, Array.length_toList]
    omega
end
variable {X : Cx} {o : Expr} {to : TE} {lo hi : Option Expr} {tl th : TO} {tpos p2 pos : Pos}
theorem ps_delS (ho : PE X o to) (hl : PO X lo tl) (hu : PO X hi th) : PS X (.Delete [.Subscript o (.Slice lo hi none p2) tpos] pos)
    (fun D σ H => to σ H fun x H1 => tl σ H1 fun i H2 => th σ H2 fun j H3 => ∃ (l : Addr) (xs : List V) (a c : Nat), x = .ref l ∧ H3 l = some (.lst xs) ∧ sliceBounds i j none xs.length = ((a : Int), (c : Int), 1) ∧ D.nx σ (upd H3 l (.lst (xs.take a ++ xs.drop (max c a))))) := by
  refine ⟨fun pins s σ H D I h => ?_⟩
  refine wpAny_Delete (wpAny_deleteEach_cons (wpAny_delete_Subscript (thn (ho.run pins s σ H _ I h) fun v s1 ⟨x, H1, I1, rx, q1⟩ => ?_)))
  refine wpAny_Slice (thn (hl.run pins s1 σ H1 _ I1 q1) fun vl s2 ⟨i, H2, I2, pl, q2⟩ => thn (hu.run pins s2 σ H2 _ I2 q2) fun vu s3 ⟨j, H3, I3, pu, l, xs, a, c, ex, hH, hb, q⟩ => ?_)
  rw [evalPart_none]
  refine wpAny_pure ?_
  subst ex
  cases (show v = Value.ref l from rx)
  have I4 : Inv X pins σ H3 { s3 with heap := s3.heap.push { cls := .type "slice", data := .fields #[vl, vu, .none] } } := I3.kept (t' := s3.toks) fun b ob q => Heap.get?_push_of_some _ q
  obtain ⟨z, its, n, r, hlen, e⟩ := I4.lstM hH
  have hz : its.toArray.size ≤ sizeLine := by rw [List.size_toArray]; omega
  refine delItem_cut e (Heap.IsSliceOf.new ..) pl pu (a := a) (c := c) (by rw [List.size_toArray, ← hlen]; exact hb) hz fun f hf => ?_
  refine wpAny_deleteEach_nil ⟨σ, _, ?_, q⟩
  refine I4.lset (its' := its.take a ++ its.drop (max c a)) (t' := s3.toks) hH e hf (Vals.append (r.take _) (r.drop _)) ?_
  rw [List.length_append, List.length_take, List.length_drop]
  omega
end XD
/-! own text: list(x) of a text -/
namespace XL
open PySem PySem.Spec PyProof.Rows L2 PySem.W
open Sem (wp)
section
variable {prog : Program} {w : World} {A : Around} {E : Value → Shared → Prop} {s : Shared} {x : Str} {t : Tok}
theorem hint_text {Q : Bool → Shared → Prop} (h : Q false s) : wpAny (model prog w) A (Builtin.List.listLengthHint (.str x t)) Q E s := by
  have hT : s.TypeIs (.str x t) "str" := typeIs_str s x t
  unfold Builtin.List.listLengthHint
  refine wpAny_bind (wpAny_specialOf hT PySem.F.slot_str_len.lookup ?_)
  generalize hid : ("str.__len__" : String) = id1
  wp_delta
  rw [show splitId id1 = some ("str", "__len__") from by subst hid; decide +kernel]
  subst hid
  refine wpAny_bind (wpAny_isInstance (T := "str") (b := true) hT (by rw [isSubtype_type]; kernel_rfl) ?_)
  refine wpAny_ite_split (fun hab => absurd hab (by decide)) (fun _ => ?_)
  refine wpAny_ite_split (fun _ => ?_) (fun hab => absurd (by decide +kernel) hab)
  exact wpAny_bind (wpAny_typeOf hT (wpAny_pure h))
/-- the iterator that a text gives, whichever -/
theorem iter_text (hh : A.handled = none) : ∃ (oI : Obj) (W : Nat → Heap → Prop), (∀ (E : Value → Shared → Prop) (Q : Value → Shared → Prop), Q (.ref s.heap.objs.size) { s with heap := s.heap.push oI } → wpAny (model prog w) A (pyIter (.str x t)) Q E s) ∧
    Walks prog w A s.heap.objs.size [s.heap.objs.size] [s.heap.objs.size] x.cps.size (SignAt x) W ∧ W 0 (s.heap.push oI) := by
  cases ha : x.cps.all (· < 128)
  · exact ⟨_, _, fun E Q q => wpAny_pyIter_wide ha q, Walks.strWide hh _ x t, ⟨_, Heap.get?_push_size _ rfl, rfl, rfl⟩⟩
  · exact ⟨_, _, fun E Q q => wpAny_pyIter_ascii ha q, Walks.strAscii hh _ x t, ⟨_, Heap.get?_push_size _ rfl, rfl, rfl⟩⟩
theorem fill_text {R : Result → Shared → Prop} (hh : A.handled = none) (L : Addr) (res : Value) (c0 : Nat) (hL : s.heap.get? L = some { cls := .type "list", data := .seq #[] c0 }) (hn : x.cps.size ≤ sizeLine)
    (hR : ∀ h' tk acc c, (∀ b o, b ≠ L → s.heap.get? b = some o → h'.get? b = some o) → h'.get? L = some { cls := .type "list", dict := none, data := .seq acc c, slots := #[] } → ItemsOf (SignAt x) acc x.cps.size → R (.ok (.ret res)) { s with heap := h', toks := tk }) :
    wpAny (model prog w) A.in1 (Builtin.List.listExtendWith (.ref L) (.str x t) res)
      (fun fin s' => match fin with | .done f => R (.ok f) s' | .again c' => c'.quiet = true ∧ codeAny (model prog w) A c' R s') (fun e s' => R (.error e) s') s := by
  have hLI : L ≠ s.heap.objs.size := Nat.ne_of_lt (Heap.lt_size hL)
  have hLf : L ∉ [s.heap.objs.size] := by simpa using hLI
  obtain ⟨oI, St, hit, W, st⟩ := iter_text (prog := prog) (w := w) (A := A.in1) (s := s) (x := x) (t := t) hh
  have go : ∀ (h : Heap) (c1 tk : Nat), St 0 h → (∀ b o, b ≠ L → s.heap.get? b = some o → h.get? b = some o) → h.get? L = some { cls := .type "list", data := .seq #[] c1 } →
      codeAny (model prog w) A (.builtin "list.extend.loop" ⟨[.ref L, .ref s.heap.objs.size, res], []⟩) R { s with heap := h, toks := tk } := fun h c1 tk hst hk hL1 => by
    refine codeAny_extend_loopS W.toS hn L hLf res x.cps.size 0 _ #[] c1 rfl (Nat.zero_le _) hst hL1 (ItemsOf.nil _) fun s2 acc c hm hL2 hacc => ?_
    rw [Moved.eq_with hm]
    refine hR s2.heap s2.toks acc c (fun b o hb e => hm.heap b o (fun z => ?_) (hk b o hb e)) hL2 hacc
    rcases List.mem_cons.mp z with z | z
    · exact hb z
    · exact absurd (Heap.lt_size e) (by rw [List.mem_singleton.mp z]; exact Nat.lt_irrefl _)
  have hT : s.TypeIs (.str x t) "str" := typeIs_str s x t
  unfold Builtin.List.listExtendWith
  refine wpAny_bind (wpAny_typeOf (T := "str") hT ?_)
  have k1 : Builtin.List.listSameRef (.ref L) (.str x t) = false := rfl
  have k2 : (Value.type "str" == Value.type "list") = false := by decide
  have k3 : (Value.type "str" == Value.type "tuple") = false := by decide
  simp only [k1, k2, k3, Bool.or_false, Bool.false_eq_true, if_false]
  refine wpAny_bind (hit _ _ ?_)
  have g1 := Heap.get?_push_of_some oI hL
  refine wpAny_bind (wpAny_holding (hint_text ?_))
  refine wpAny_ite_split (fun _ => ?_) (fun _ => wpAny_pure ⟨plainId_quiet PySem.F.plain_extend_loop _, go _ c0 _ st (fun b o _ e => Heap.get?_push_of_some _ e) g1⟩)
  refine wpAny_bind (wpAny_rule (wpAny_bind ?_))
  show wpAny _ _ (updateSeq L (·.push .none) >>= fun _ => updateSeq L (·.pop)) _ _ _
  refine wpAny_bind (wpAny_updateSeq g1 rfl ?_)
  have g2 := Heap.get?_update_self (Obj.mapSeq (·.push Value.none)) g1 rfl
  refine wpAny_updateSeq (hz := by seq_fits) g2 rfl ?_
  have g3 := Heap.get?_update_self (Obj.mapSeq (·.pop)) g2 rfl
  refine wpAny_pure ⟨plainId_quiet PySem.F.plain_extend_loop _, go _ _ _ (W.frame 0 _ _ st fun b hb o e => ?_) (fun b o hb e => ?_) g3⟩
  · have hbL : L ≠ b := fun z => hLf (z ▸ hb)
    exact (Heap.get?_update_other _ _ hbL).trans ((Heap.get?_update_other _ _ hbL).trans e)
  · exact (Heap.get?_update_other _ _ (Ne.symm hb)).trans ((Heap.get?_update_other _ _ (Ne.symm hb)).trans (Heap.get?_push_of_some _ e))
theorem call_text {Q : Value → Shared → Prop} (hh : A.handled = none) (hn : x.cps.size ≤ sizeLine)
    (hQ : ∀ h' tk acc c, (∀ b o, s.heap.get? b = some o → h'.get? b = some o) → h'.get? s.heap.objs.size = some { cls := .type "list", dict := none, data := .seq acc c, slots := #[] } → ItemsOf (SignAt x) acc x.cps.size → Q (.ref s.heap.objs.size) { s with heap := h', toks := tk }) :
    wpAny (model prog w) A (call (.type "list") [.str x t]) Q E s := by
  refine callType_codes (Q₁ := fun ob s1 => ob = .ref s.heap.objs.size ∧ s1 = { s with heap := s.heap.push { cls := .type "list", data := .seq #[] } }) PySem.F.called_list (PySem.F.typeCall_list_1 _) PySem.F.entry_list_init
    (code_list_new _ ⟨rfl, rfl⟩) fun ob s1 h1 => ?_
  obtain ⟨rfl, rfl⟩ := h1
  have hL : (s.heap.push { cls := .type "list", data := .seq #[] }).get? s.heap.objs.size = some { cls := .type "list", data := .seq #[] } := Heap.get?_push_size _ rfl
  refine ⟨⟨_, hL, rfl⟩, PySem.F.args_list_init_2 _ _, ?_⟩
  show wpAny _ _ (do let old ← Builtin.List.listItems (.ref s.heap.objs.size); Builtin.List.listUpdate (.ref s.heap.objs.size) (fun _ => #[]); letGo old.toList.reverse; Builtin.List.listExtendWith (.ref s.heap.objs.size) (.str x t) .none) _ _ _
  refine wpAny_bind ?_
  unfold Builtin.List.listItems
  refine wpAny_bind (wpAny_seqItems hL rfl (wpAny_pure ?_))
  show wpAny _ _ (updateSeq s.heap.objs.size (fun _ => #[]) >>= fun _ => letGo (#[] : Array Value).toList.reverse >>= fun _ => Builtin.List.listExtendWith (.ref s.heap.objs.size) (.str x t) .none) _ _ _
  refine wpAny_bind (wpAny_updateSeq hL rfl ?_)
  have g2 := Heap.get?_update_self (Obj.mapSeq (fun _ => (#[] : Array Value))) hL rfl
  refine wpAny_bind (wpAny_letGo ?_)
  refine fill_text (A := A.in1) hh s.heap.objs.size .none _ g2 hn fun h' tk acc c hk hL2 hacc => ⟨rfl, hQ h' tk acc c (fun b o e => ?_) hL2 hacc⟩
  have hb : b ≠ s.heap.objs.size := Nat.ne_of_lt (Heap.lt_size e)
  exact hk b o hb ((Heap.get?_update_other _ _ (Ne.symm hb)).trans (Heap.get?_push_of_some _ e))
end
/-- the signs of a text, as texts -/
def signs (x : Str) : List Str := x.cps.toList.map fun c => ⟨#[c]⟩
theorem call_list_text {X : Cx} (hc : X.calm = true) : CallR X (.type "list") (fun xs H Q => ∃ x, xs = [.str x] ∧ x.length ≤ sizeLine ∧ ∀ l, H l = none → Q (.ref l) (upd H l (.lst ((signs x).map V.str)))) := by
  intro pins s σ H xs us Q I r h
  obtain ⟨x, rfl, hz, q⟩ := h
  obtain ⟨u, rfl, t, rfl⟩ := vals1 r
  have hz' : x.cps.size ≤ sizeLine := hz
  refine call_text (I.ok.hd hc) hz' fun h' tk acc c hk hL hacc => ?_
  refine ⟨.ref s.heap.objs.size, _, I.laid hk (Nat.le_refl _) (show ObjOk X.prog X.w _ h' _ (.lst ((signs x).map V.str)) from ⟨?_, acc.toList, c, ?_, ?_⟩), rfl, q _ (I.hok.fresh (Nat.le_refl _))⟩
  · rw [List.length_map]; unfold signs; rw [List.length_map, Array.length_toList]; exact hz'
  · refine vals_of_at (by rw [List.length_map]; unfold signs; rw [List.length_map, Array.length_toList, Array.length_toList, hacc.1]) fun j v u h1 h2 => ?_
    obtain ⟨cc, tt, e1, e2⟩ := hacc.2 j u (by rw [← Array.getElem?_toList]; exact h2)
    rw [List.getElem?_map] at h1
    unfold signs at h1
    rw [List.getElem?_map, Array.getElem?_toList, e1] at h1
    cases h1
    exact ⟨tt, e2⟩
  · simpa using hL
end XL
namespace XN
open PySem PySem.Spec PyProof.Rows L2 XS
section
variable {X : Cx} {e : Expr} {es : List Expr} {ta : TA} {p pos : Pos}
/-- C(e, ..), the exception's context told to be None -/
theorem pmk_oexN {CX : CXT} {x : Str} {C fI : Addr} {k : Nat} {fd : FuncData} {ps : List Str} {sp : Sp} {ds : List Value} {dvs : List V} (T : OexC X.K C) (iC : PySem.W.findIn X.K (.ref C) "__init__" = some (some (.ref fI))) (tI : PySem.W.typeIn X.K (.ref fI) = some (.type "function"))
    (F1 : FnOk X.prog X.w X.K X.mg X.base CX k fI fd ps sp) (hr : Room (k + 1) X.A) (hb : Binds X.K fd ps ds) (hd : Vals dvs ds) (hx : Passes CX X (fun _ _ _ => False)) (hg : Gl X x) (hm : X.mg x = some (.ref C)) (ha : PA X (e :: es) ta)
    (hdb : (x == ("__debug__" : Str)) = false := by decide) (he : starEach (e :: es) X.env = (false, eval e X.env) :: starEach es X.env := by rfl) (hpl : (backTo pos (starEach es X.env)).any (·.1) = false := by rfl) :
    L2N.PMk X (.Call (.Name x p) (e :: es) [] pos) (tMkO C sp dvs ta) := by
  intro pins s σ H Q I h
  obtain ⟨nm, q, N, bs, bm, sn, sub, ab, col, dd, k0, k1, k2, k3, k5, hC, hbm⟩ := T.cls
  refine wpAny_Call_Name_kw (ld_glob I hg hm ?_ hdb)
  refine PySem.W.callWith_K (h₀ := X.base) I.ok.mod.kin T.kC (thn (ha.run pos pins s σ H _ I h) fun us s1 ⟨vs, H1, I1, r1, hz, q1⟩ => ⟨I1.kIn, ?_⟩) he hpl
  show wpAny _ _ (call (.ref C) us) _ _ _
  obtain ⟨hp, g, dr, tk, os⟩ := s1
  have hsz : hp.objs.size ≤ hp.objs.size + 1 := Nat.le_succ _
  have hn : H1 (hp.objs.size + 1) = none := I1.hok.fresh hsz
  have hq := q1 (hp.objs.size + 1) hn
  have kk : ∀ b o, hp.get? b = some o → ((hp.push (PySem.W.kdv_tup us)).push (PySem.HandSPX.excO C hp.objs.size)).get? b = some o := fun b o e => Heap.get?_push_of_some _ (Heap.get?_push_of_some _ e)
  have hget : ((hp.push (PySem.W.kdv_tup us)).push (PySem.HandSPX.excO C hp.objs.size)).get? (hp.objs.size + 1) = some (PySem.HandSPX.excO C hp.objs.size) := by heap_get
  have I2 : Inv X pins σ (upd H1 (hp.objs.size + 1) (exo (hp.objs.size + 1) C none)) ⟨(hp.push (PySem.W.kdv_tup us)).push (PySem.HandSPX.excO C hp.objs.size), g, dr, tk, os⟩ :=
    I1.laid (t' := tk) (a := hp.objs.size + 1) (o := exo (hp.objs.size + 1) C none) (h' := (hp.push (PySem.W.kdv_tup us)).push (PySem.HandSPX.excO C hp.objs.size)) kk hsz (exo_ok hget)
  have r2 : Vals (V.ref (hp.objs.size + 1) :: (vs ++ dvs)) (Value.ref (hp.objs.size + 1) :: (us ++ ds)) := .cons rfl (r1.append hd)
  have hl : (Value.ref (hp.objs.size + 1) :: us ++ ds).length = ps.length := by
    have e := r2.length
    rw [F1.len _ _ _ _ hq] at e
    exact e.symm
  have hus : us.length ≤ sizeLine := by
    rw [← Paired.length r1, sizeLine_eq]
    omega
  refine wpAny_call (PySem.HandSPX.call_own F.excBase_ValueError (fun Y => PySem.HandSPX.refsVE_contains Y bm hbm) (I1.kIn _ _ hC) (PySem.W.looks_findIn I1.kIn iC) (fun self => PySem.W.bind_fn I1.kIn self tI) hus
    (codeAny_mono (F1.run _ X.stack _ _ ⟨Value.ref (hp.objs.size + 1) :: us, []⟩ (Value.ref (hp.objs.size + 1) :: (us ++ ds)) _ _ (fun _ _ _ => False) (hr.make C us []) (I2.env0.make C us []) (hb _ (Value.ref (hp.objs.size + 1) :: us) I2.kIn hl) r2 hq) fun r s' hq' => ?_))
  cases r with
  | error er => exact hx pins σ _ _ er s' I2 hq'
  | ok fl =>
    cases fl with
    | ret u =>
      obtain ⟨v, H2, os2, bare2, un2, hok2, rv, ev, d, fs, ea, ed, hd1, q2⟩ := hq'
      subst ev
      obtain ⟨h2, g2, d2, t2, os'⟩ := s'
      obtain ⟨t0, G, J, kG, ge, hoe, na⟩ := mk_end0 (d2 := d2) (t2 := t2) I1 hsz kk un2 hok2 os2 bare2 ea ed hd1
      refine ⟨rv, hp.objs.size + 1, _, _, ⟨G, g2, d2, t2, os'⟩, _, .ref C, some d, rfl, J, kG, ge, hoe, ⟨rfl, rfl, fun vs hv => ?_⟩, rfl, rfl, na, rfl, bare2, raises_own T.exC T.tyC, q2⟩
      cases hv
      rfl
    | next => exact False.elim hq'
    | brk => exact False.elim hq'
    | cont => exact False.elim hq'
end
section
variable {X : Cx} {C fI : Addr} {n1 n2 x : Str} {e : Expr} {es : List Expr} {ta : TA} {p pos pos2 : Pos} {fd : FuncData} {k : Nat}
theorem ps_raise2N {W : WX} (hc : X.calm = true) (T : Exn X.prog X.K X.mg C fI n1 n2) (F : FnOk X.prog X.w X.K X.mg X.base CX0 k fI fd ["self", n1, n2] (spTwo C n1 n2)) (hr : Room (k + 1) X.A) (tk : L2N.Takes X W) (hb : Binds X.K fd ["self", n1, n2] []) (hg : Gl X x) (hm : X.mg x = some (.ref C)) (ha : PA X (e :: es) ta)
    (hdb : (x == ("__debug__" : Str)) = false := by decide) (he : starEach (e :: es) X.env = (false, eval e X.env) :: starEach es X.env := by rfl) (hpl : (backTo pos (starEach es X.env)).any (·.1) = false := by rfl) :
    PS X (.Raise (some (.Call (.Name x p) (e :: es) [] pos)) none pos2) (fun _ σ H => tMkO C (spTwo C n1 n2) [] ta σ H fun cls d H' => W cls d σ H') := L2N.ps_raise (pos := pos2) hc tk (pmk_oexN (e := e) (es := es) (p := p) (pos := pos) T.oex T.iC T.tI F hr hb .nil pass0 hg hm ha hdb he hpl)
end
theorem roomH_mark {k : Nat} {A : Around} (r : Room k A) (h : Option Value) : L2H.RoomH k (A.mark h) := ⟨r.dp, r.un⟩
theorem units_mark {k : Nat} {A : Around} (r : Room k A) (h : Option Value) : (A.mark h).units + 64 < cLine := by
  have := r.un
  show A.units + 64 < cLine
  omega
/-- takes of where nothing leaves -/
theorem takes0N {X : Cx} : L2N.Takes X (fun _ _ _ _ => False) := fun _ _ ⟨_, _, _, _, _, _, _, _, _, _, _, _, _, _, _, _, h⟩ => h.elim
section
variable {P : Program} {w : World} {K : PySem.W.Frag} {mg : Str → Option Value} {base : Heap}
theorem okXN {x qual : Str} {st : Stmt} {f : Addr} {fd : FuncData} {N ps : List Str} {k : Nat} {sp : Sp} (F : Fun K x qual st f fd) (S : FnScope N ps (defScope st)) (len : ∀ vs H Q E, sp vs H Q E → vs.length = ps.length)
    (hbody : ∀ (cdv : Value) (A : Around) (outer : List Env) (s : Shared) (H : Hp) (vs : List V) (Q : VK) (E : XK), Room k (A.deeper (envOfC qual (defScope st) s.heap.objs.size f cdv)) → sp vs H Q E →
      ∃ t, PSs (cxOf (L2N.CX P w) P w K mg base N qual (defScope st) f cdv A outer s H E) (defBody st) t ∧ t { nx := fun _ H' => Q .non H', rt := Q } (L2.start N vs) H) : FnOk P w K mg base (L2N.CX P w) (k + 1) f fd ps sp := by
  obtain ⟨oc, od, kV, doc, pm, an, cdv, ct, osl, rfl, lk, hcd⟩ := F.ex
  exact fn_of lk hcd S len fun A outer s H vs Q E hr hsp => hbody cdv A outer s H vs Q E hr hsp
/-- a def that is called in an except suite -/
theorem okH {x qual : Str} {st : Stmt} {f : Addr} {fd : FuncData} {N ps : List Str} {k : Nat} {sp : Sp} (F : Fun K x qual st f fd) (S : FnScope N ps (defScope st)) (len : ∀ vs H Q E, sp vs H Q E → vs.length = ps.length)
    (hbody : ∀ (cdv : Value) (A : Around) (outer : List Env) (s : Shared) (H : Hp) (vs : List V) (Q : VK) (E : XK) (p : Addr × Obj), L2H.Hot1 A p → L2H.RoomH k (A.deeper (envOfC qual (defScope st) s.heap.objs.size f cdv)) → sp vs H Q E →
      ∃ t, PSs (L2H.cxH CX0 P w K mg base N qual (defScope st) f cdv A outer s H E p) (defBody st) t ∧ t { nx := fun _ H' => Q .non H', rt := Q } (L2.start N vs) H) : L2H.FnH P w K mg base CX0 (k + 1) f fd ps sp := by
  obtain ⟨oc, od, kV, doc, pm, an, cdv, ct, osl, rfl, lk, hcd⟩ := F.ex
  exact L2H.fn_ofH lk hcd S len fun A outer s H vs Q E p hot hr hsp => hbody cdv A outer s H vs Q E p hot hr hsp
theorem hot_in {CX : CXT} {N : List Str} {qual : Str} {scope : Scope} {f : Addr} {cd : Value} {A : Around} {outer : List Env} {s : Shared} {H : Hp} {E : XK} {p : Addr × Obj} (h : L2H.Hot1 A p) : L2H.HotC (L2H.cxH CX P w K mg base N qual scope f cd A outer s H E p) := ⟨p, h, List.mem_singleton.mpr rfl⟩
theorem hot_suite {X : Cx} {a : Addr} {oe : Obj} {pn : List (Addr × Obj)} {cls : Value} {d : Option Addr} (hz : L2N.Zn cls d oe) (hf : ∃ vs, oe.data = .fields vs) : L2H.HotC (X.suite a ((a, oe) :: pn)) := by
  obtain ⟨vs, hv⟩ := hf
  exact ⟨(a, oe), ⟨rfl, vs, hv, hz.2.2 vs hv⟩, List.mem_cons_self⟩
theorem pass0H {X : Cx} {E : L2.St → XK} : ∀ σ, PassesAt CX0 X σ (E σ) := fun _ _ _ _ _ _ _ h => h.elim
end
end XN
namespace My
open PySem L2 SX XT XS XE
def top (i : Nat) : Stmt := PySem.Challenge.pw_livequill_k18_operators_of_other_kinds.main.body.getD i (.Pass ⟨0, 0, 0, 0⟩)
abbrev s_tagged : Stmt := top 10
theorem sc_tagged : FnScope ["key"] ["key"] (defScope s_tagged) := ⟨rfl, rfl, rfl, by decide +kernel, rfl, by decide +kernel, by decide +kernel⟩
abbrev s_kind_of : Stmt := top 15
theorem sc_kind_of : FnScope ["store", "value"] ["store", "value"] (defScope s_kind_of) := ⟨rfl, rfl, rfl, by decide +kernel, rfl, by decide +kernel, by decide +kernel⟩
abbrev s_kind_of_thing : Stmt := top 16
theorem sc_kind_of_thing : FnScope ["thing"] ["thing"] (defScope s_kind_of_thing) := ⟨rfl, rfl, rfl, by decide +kernel, rfl, by decide +kernel, by decide +kernel⟩
abbrev s_is_true : Stmt := top 17
theorem sc_is_true : FnScope ["value"] ["value"] (defScope s_is_true) := ⟨rfl, rfl, rfl, by decide +kernel, rfl, by decide +kernel, by decide +kernel⟩
abbrev s_equal : Stmt := top 18
theorem sc_equal : FnScope ["x", "y"] ["x", "y"] (defScope s_equal) := ⟨rfl, rfl, rfl, by decide +kernel, rfl, by decide +kernel, by decide +kernel⟩
abbrev s_is_key : Stmt := top 19
theorem sc_is_key : FnScope ["value"] ["value"] (defScope s_is_key) := ⟨rfl, rfl, rfl, by decide +kernel, rfl, by decide +kernel, by decide +kernel⟩
abbrev s_is_below : Stmt := top 20
theorem sc_is_below : FnScope ["store", "kin", "other"] ["store", "kin", "other"] (defScope s_is_below) := ⟨rfl, rfl, rfl, by decide +kernel, rfl, by decide +kernel, by decide +kernel⟩
abbrev s_check_size : Stmt := top 24
theorem sc_check_size : FnScope ["size"] ["size"] (defScope s_check_size) := ⟨rfl, rfl, rfl, by decide +kernel, rfl, by decide +kernel, by decide +kernel⟩
abbrev s_is_bounded : Stmt := top 25
theorem sc_is_bounded : FnScope ["number"] ["number"] (defScope s_is_bounded) := ⟨rfl, rfl, rfl, by decide +kernel, rfl, by decide +kernel, by decide +kernel⟩
abbrev s_checked_integer : Stmt := top 26
theorem sc_checked_integer : FnScope ["number"] ["number"] (defScope s_checked_integer) := ⟨rfl, rfl, rfl, by decide +kernel, rfl, by decide +kernel, by decide +kernel⟩
abbrev s_unary : Stmt := top 30
theorem sc_unary : FnScope ["store", "operator", "x", "kind"] ["store", "operator", "x"] (defScope s_unary) := ⟨rfl, rfl, rfl, by decide +kernel, rfl, by decide +kernel, by decide +kernel⟩
abbrev s_binary : Stmt := top 31
theorem sc_binary : FnScope ["store", "operator", "x", "y"] ["store", "operator", "x", "y"] (defScope s_binary) := ⟨rfl, rfl, rfl, by decide +kernel, rfl, by decide +kernel, by decide +kernel⟩
abbrev s_is_instance : Stmt := top 32
theorem sc_is_instance : FnScope ["store", "x", "y"] ["store", "x", "y"] (defScope s_is_instance) := ⟨rfl, rfl, rfl, by decide +kernel, rfl, by decide +kernel, by decide +kernel⟩
abbrev s_kinds_of : Stmt := top 33
theorem sc_kinds_of : FnScope ["store", "x", "y"] ["store", "x", "y"] (defScope s_kinds_of) := ⟨rfl, rfl, rfl, by decide +kernel, rfl, by decide +kernel, by decide +kernel⟩
abbrev s_refuse_operands : Stmt := top 34
theorem sc_refuse_operands : FnScope ["verb", "kinds"] ["verb", "kinds"] (defScope s_refuse_operands) := ⟨rfl, rfl, rfl, by decide +kernel, rfl, by decide +kernel, by decide +kernel⟩
abbrev s_add : Stmt := top 35
theorem sc_add : FnScope ["store", "x", "y", "kinds"] ["store", "x", "y"] (defScope s_add) := ⟨rfl, rfl, rfl, by decide +kernel, rfl, by decide +kernel, by decide +kernel⟩
abbrev s_compare : Stmt := top 36
theorem sc_compare : FnScope ["store", "operator", "x", "y", "kinds"] ["store", "operator", "x", "y"] (defScope s_compare) := ⟨rfl, rfl, rfl, by decide +kernel, rfl, by decide +kernel, by decide +kernel⟩
abbrev s_calculate : Stmt := top 37
theorem sc_calculate : FnScope ["store", "operator", "x", "y", "kinds", "quotient"] ["store", "operator", "x", "y"] (defScope s_calculate) := ⟨rfl, rfl, rfl, by decide +kernel, rfl, by decide +kernel, by decide +kernel⟩
abbrev s_check_key : Stmt := top 38
theorem sc_check_key : FnScope ["key"] ["key"] (defScope s_check_key) := ⟨rfl, rfl, rfl, by decide +kernel, rfl, by decide +kernel, by decide +kernel⟩
abbrev s_put_entry : Stmt := top 39
theorem sc_put_entry : FnScope ["table", "key", "value"] ["table", "key", "value"] (defScope s_put_entry) := ⟨rfl, rfl, rfl, by decide +kernel, rfl, by decide +kernel, by decide +kernel⟩
abbrev s_make_list : Stmt := top 40
theorem sc_make_list : FnScope ["store", "values"] ["store", "values"] (defScope s_make_list) := ⟨rfl, rfl, rfl, by decide +kernel, rfl, by decide +kernel, by decide +kernel⟩
abbrev s_make_map : Stmt := top 41
theorem sc_make_map : FnScope ["store", "pairs", "table", "key", "value"] ["store", "pairs"] (defScope s_make_map) := ⟨rfl, rfl, rfl, by decide +kernel, rfl, by decide +kernel, by decide +kernel⟩
abbrev s_make_class : Stmt := top 42
theorem sc_make_class : FnScope ["store", "name", "parent"] ["store", "name", "parent"] (defScope s_make_class) := ⟨rfl, rfl, rfl, by decide +kernel, rfl, by decide +kernel, by decide +kernel⟩
abbrev s_law_cell : Stmt := top 46
theorem sc_law_cell : FnScope ["script", "k"] ["script", "k"] (defScope s_law_cell) := ⟨rfl, rfl, rfl, by decide +kernel, rfl, by decide +kernel, by decide +kernel⟩
abbrev s_law_is_integer : Stmt := top 47
theorem sc_law_is_integer : FnScope ["told"] ["told"] (defScope s_law_is_integer) := ⟨rfl, rfl, rfl, by decide +kernel, rfl, by decide +kernel, by decide +kernel⟩
abbrev s_law_begin : Stmt := top 48
theorem sc_law_begin : FnScope ["script", "k"] ["script", "k"] (defScope s_law_begin) := ⟨rfl, rfl, rfl, by decide +kernel, rfl, by decide +kernel, by decide +kernel⟩
abbrev s_law_draw : Stmt := top 49
theorem sc_law_draw : FnScope ["state", "many", "k", "cell", "prime", "mixed", "digit"] ["state", "many"] (defScope s_law_draw) := ⟨rfl, rfl, rfl, by decide +kernel, rfl, by decide +kernel, by decide +kernel⟩
abbrev s_law_pick : Stmt := top 50
theorem sc_law_pick : FnScope ["state", "row"] ["state", "row"] (defScope s_law_pick) := ⟨rfl, rfl, rfl, by decide +kernel, rfl, by decide +kernel, by decide +kernel⟩
abbrev s_law_text : Stmt := top 51
theorem sc_law_text : FnScope ["state", "chars", "many", "text", "k"] ["state"] (defScope s_law_text) := ⟨rfl, rfl, rfl, by decide +kernel, rfl, by decide +kernel, by decide +kernel⟩
abbrev s_law_store : Stmt := top 52
theorem sc_law_store : FnScope ["state", "store", "kinds", "above", "k", "parent", "ref", "made", "j"] ["state"] (defScope s_law_store) := ⟨rfl, rfl, rfl, by decide +kernel, rfl, by decide +kernel, by decide +kernel⟩
abbrev s_law_value : Stmt := top 53
theorem sc_law_value : FnScope ["state", "store", "kind"] ["state", "store"] (defScope s_law_value) := ⟨rfl, rfl, rfl, by decide +kernel, rfl, by decide +kernel, by decide +kernel⟩
abbrev s_law_kind : Stmt := top 54
theorem sc_law_kind : FnScope ["store", "value"] ["store", "value"] (defScope s_law_kind) := ⟨rfl, rfl, rfl, by decide +kernel, rfl, by decide +kernel, by decide +kernel⟩
abbrev s_law_told : Stmt := top 55
theorem sc_law_told : FnScope ["store", "operator", "x", "y", "e"] ["store", "operator", "x", "y"] (defScope s_law_told) := ⟨rfl, rfl, rfl, by decide +kernel, rfl, by decide +kernel, by decide +kernel⟩
abbrev s_law_added : Stmt := top 56
theorem sc_law_added : FnScope ["store", "x", "y", "told", "many", "kinds", "first", "second", "due"] ["store", "x", "y", "told", "many"] (defScope s_law_added) := ⟨rfl, rfl, rfl, by decide +kernel, rfl, by decide +kernel, by decide +kernel⟩
abbrev s_law_compared : Stmt := top 57
theorem sc_law_compared : FnScope ["operator", "x", "y"] ["operator", "x", "y"] (defScope s_law_compared) := ⟨rfl, rfl, rfl, by decide +kernel, rfl, by decide +kernel, by decide +kernel⟩
abbrev s_law_is : Stmt := top 58
theorem sc_law_is : FnScope ["store", "above", "x", "y", "told", "due", "kin", "k"] ["store", "above", "x", "y", "told"] (defScope s_law_is) := ⟨rfl, rfl, rfl, by decide +kernel, rfl, by decide +kernel, by decide +kernel⟩
abbrev s_law_negated : Stmt := top 59
theorem sc_law_negated : FnScope ["store", "x", "e"] ["store", "x"] (defScope s_law_negated) := ⟨rfl, rfl, rfl, by decide +kernel, rfl, by decide +kernel, by decide +kernel⟩
abbrev s_law : Stmt := top 60
theorem sc_law : FnScope ["script", "state", "made", "store", "k", "x", "y", "verbs", "many", "operator", "verb", "due"] ["script"] (defScope s_law) := ⟨rfl, rfl, rfl, by decide +kernel, rfl, by decide +kernel, by decide +kernel⟩
abbrev s_Ref_init : Stmt := inClass (top 5) 0
theorem sc_Ref_init : FnScope ["self", "number"] ["self", "number"] (defScope s_Ref_init) := ⟨rfl, rfl, rfl, by decide +kernel, rfl, by decide +kernel, by decide +kernel⟩
abbrev s_Ref_eq : Stmt := inClass (top 5) 1
theorem sc_Ref_eq : FnScope ["self", "other"] ["self", "other"] (defScope s_Ref_eq) := ⟨rfl, rfl, rfl, by decide +kernel, rfl, by decide +kernel, by decide +kernel⟩
abbrev s_Builtin_init : Stmt := inClass (top 6) 0
theorem sc_Builtin_init : FnScope ["self", "name"] ["self", "name"] (defScope s_Builtin_init) := ⟨rfl, rfl, rfl, by decide +kernel, rfl, by decide +kernel, by decide +kernel⟩
abbrev s_Builtin_eq : Stmt := inClass (top 6) 1
theorem sc_Builtin_eq : FnScope ["self", "other"] ["self", "other"] (defScope s_Builtin_eq) := ⟨rfl, rfl, rfl, by decide +kernel, rfl, by decide +kernel, by decide +kernel⟩
abbrev s_Parts_init : Stmt := inClass (top 8) 0
theorem sc_Parts_init : FnScope ["self", "held"] ["self", "held"] (defScope s_Parts_init) := ⟨rfl, rfl, rfl, by decide +kernel, rfl, by decide +kernel, by decide +kernel⟩
abbrev s_Table_init : Stmt := inClass (top 9) 0
theorem sc_Table_init : FnScope ["self"] ["self"] (defScope s_Table_init) := ⟨rfl, rfl, rfl, by decide +kernel, rfl, by decide +kernel, by decide +kernel⟩
abbrev s_Table_has : Stmt := inClass (top 9) 1
theorem sc_Table_has : FnScope ["self", "key"] ["self", "key"] (defScope s_Table_has) := ⟨rfl, rfl, rfl, by decide +kernel, rfl, by decide +kernel, by decide +kernel⟩
abbrev s_Table_put : Stmt := inClass (top 9) 3
theorem sc_Table_put : FnScope ["self", "key", "value"] ["self", "key", "value"] (defScope s_Table_put) := ⟨rfl, rfl, rfl, by decide +kernel, rfl, by decide +kernel, by decide +kernel⟩
abbrev s_Table_pairs : Stmt := inClass (top 9) 5
theorem sc_Table_pairs : FnScope ["self"] ["self"] (defScope s_Table_pairs) := ⟨rfl, rfl, rfl, by decide +kernel, rfl, by decide +kernel, by decide +kernel⟩
abbrev s_Table_many : Stmt := inClass (top 9) 6
theorem sc_Table_many : FnScope ["self"] ["self"] (defScope s_Table_many) := ⟨rfl, rfl, rfl, by decide +kernel, rfl, by decide +kernel, by decide +kernel⟩
abbrev s_Instance_init : Stmt := inClass (top 11) 0
theorem sc_Instance_init : FnScope ["self", "owner"] ["self", "owner"] (defScope s_Instance_init) := ⟨rfl, rfl, rfl, by decide +kernel, rfl, by decide +kernel, by decide +kernel⟩
abbrev s_Kin_init : Stmt := inClass (top 12) 0
theorem sc_Kin_init : FnScope ["self", "name", "parent"] ["self", "name", "parent"] (defScope s_Kin_init) := ⟨rfl, rfl, rfl, by decide +kernel, rfl, by decide +kernel, by decide +kernel⟩
abbrev s_Closure_init : Stmt := inClass (top 13) 0
theorem sc_Closure_init : FnScope ["self", "number", "wanted", "scope"] ["self", "number", "wanted", "scope"] (defScope s_Closure_init) := ⟨rfl, rfl, rfl, by decide +kernel, rfl, by decide +kernel, by decide +kernel⟩
abbrev s_Store_init : Stmt := inClass (top 44) 0
theorem sc_Store_init : FnScope ["self", "lines"] ["self", "lines"] (defScope s_Store_init) := ⟨rfl, rfl, rfl, by decide +kernel, rfl, by decide +kernel, by decide +kernel⟩
abbrev s_Store_make : Stmt := inClass (top 44) 1
theorem sc_Store_make : FnScope ["self", "thing"] ["self", "thing"] (defScope s_Store_make) := ⟨rfl, rfl, rfl, by decide +kernel, rfl, by decide +kernel, by decide +kernel⟩
abbrev s_Store_at : Stmt := inClass (top 44) 2
theorem sc_Store_at : FnScope ["self", "ref"] ["self", "ref"] (defScope s_Store_at) := ⟨rfl, rfl, rfl, by decide +kernel, rfl, by decide +kernel, by decide +kernel⟩
abbrev sx_ScriptError : Stmt := inClass (top 3) 0
/-- where the classes stand -/
structure Ads where
  Ref : Addr
  Builtin : Addr
  Parts : Addr
  Table : Addr
  Instance : Addr
  Kin : Addr
  Closure : Addr
  Store : Addr
  LivequillError : Addr
  ScriptError : Addr
structure CF (K : PySem.W.Frag) (mg : Str → Option Value) (C : Addr) (nm : Str) : Prop where
  cl : Cls K C
  g : mg nm = some (.ref C)
  ty : ∀ {H : Hp} {a dx : Addr} {fs : List (Str × V)}, H a = some (.ins C dx fs) → TyX K H (.ref a) (.ref C)
structure Fx (K : PySem.W.Frag) (mg : Str → Option Value) (nm : Str) (st : Stmt) (ps : List Str) where
  f : Addr
  fd : FuncData
  F : Fun K nm nm st f fd
  b : Binds K fd ps []
  g : mg nm = some (.ref f)
structure Mx (K : PySem.W.Frag) (C : Addr) (nm qual : Str) (st : Stmt) (ps : List Str) where
  f : Addr
  fd : FuncData
  F : Fun K nm qual st f fd
  b : Binds K fd ps []
  m : Meth K C nm f
structure Ix (K : PySem.W.Frag) (C : Addr) (qual : Str) (st : Stmt) (ps : List Str) where
  f : Addr
  fd : FuncData
  F : Fun K "__init__" qual st f fd
  b : Binds K fd ps []
  m : Mk K C f
structure OwnEq (K : PySem.W.Frag) (C f : Addr) : Prop where
  at_ : PySem.W.findIn K (.ref C) "__eq__" = some (some (.ref f))
  fn : PySem.W.isFn K (.ref f) = true
structure Qx (K : PySem.W.Frag) (C : Addr) (qual : Str) (st : Stmt) (ps : List Str) where
  f : Addr
  fd : FuncData
  F : Fun K "__eq__" qual st f fd
  b : Binds K fd ps []
  m : OwnEq K C f
structure Px (K : PySem.W.Frag) (C : Addr) (nm qual : Str) (st : Stmt) (ps : List Str) where
  f : Addr
  p : Addr
  fd : FuncData
  F : Fun K nm qual st f fd
  b : Binds K fd ps []
  m : PropOf K C nm p f
structure Tx (K : PySem.W.Frag) (mg : Str → Option Value) (nm : Str) (vs : List V) where
  a : Addr
  g : mg nm = some (.ref a)
  s : ∀ H, SqT K H a vs
structure Xx (P : Program) (K : PySem.W.Frag) (mg : Str → Option Value) (C : Addr) (nm n1 n2 : Str) where
  f : Addr
  fd : FuncData
  T : Exn P K mg C f n1 n2
  F : ∀ w base, FnOk P w K mg base CX0 1 f fd ["self", n1, n2] (spTwo C n1 n2)
  b : Binds K fd ["self", n1, n2] []
  g : mg nm = some (.ref C)
  ec : ExcC K C
structure Gx (mg : Str → Option Value) (C : Addr) (nm : Str) : Prop where
  g : mg nm = some (.ref C)
/-- what the written part says -/
structure Lib (P : Program) (K : PySem.W.Frag) (mg : Str → Option Value) (A : Ads) where
  z_range : mg "range" = none
  z_len : mg "len" = none
  z_int : mg "int" = none
  z_str : mg "str" = none
  z_bool : mg "bool" = none
  z_isinstance : mg "isinstance" = none
  z_list : mg "list" = none
  z_abs : mg "abs" = none
  z_min : mg "min" = none
  z_max : mg "max" = none
  c_Ref : CF K mg A.Ref "Ref"
  n_Ref_number : PySem.W.findIn K (.ref A.Ref) "number" = some none
  c_Builtin : CF K mg A.Builtin "Builtin"
  n_Builtin_name : PySem.W.findIn K (.ref A.Builtin) "name" = some none
  c_Parts : CF K mg A.Parts "Parts"
  n_Parts_held : PySem.W.findIn K (.ref A.Parts) "held" = some none
  c_Table : CF K mg A.Table "Table"
  n_Table__entries : PySem.W.findIn K (.ref A.Table) "_entries" = some none
  c_Instance : CF K mg A.Instance "Instance"
  n_Instance_owner : PySem.W.findIn K (.ref A.Instance) "owner" = some none
  n_Instance_named : PySem.W.findIn K (.ref A.Instance) "named" = some none
  c_Kin : CF K mg A.Kin "Kin"
  n_Kin_name : PySem.W.findIn K (.ref A.Kin) "name" = some none
  n_Kin_parent : PySem.W.findIn K (.ref A.Kin) "parent" = some none
  n_Kin_methods : PySem.W.findIn K (.ref A.Kin) "methods" = some none
  c_Closure : CF K mg A.Closure "Closure"
  n_Closure_number : PySem.W.findIn K (.ref A.Closure) "number" = some none
  n_Closure_wanted : PySem.W.findIn K (.ref A.Closure) "wanted" = some none
  n_Closure_scope : PySem.W.findIn K (.ref A.Closure) "scope" = some none
  c_Store : CF K mg A.Store "Store"
  n_Store_things : PySem.W.findIn K (.ref A.Store) "things" = some none
  n_Store_output : PySem.W.findIn K (.ref A.Store) "output" = some none
  n_Store_lines : PySem.W.findIn K (.ref A.Store) "lines" = some none
  n_Store_taken : PySem.W.findIn K (.ref A.Store) "taken" = some none
  x_LivequillError : Gx mg A.LivequillError "LivequillError"
  x_ScriptError : Xx P K mg A.ScriptError "ScriptError" "kind" "message"
  k_ScriptError_LivequillError : PySem.W.kitOne K (.ref A.ScriptError) (.ref A.LivequillError) = some true
  k_Ref_Parts : PySem.W.kitOne K (.ref A.Ref) (.ref A.Parts) = some false
  k_Ref_Table : PySem.W.kitOne K (.ref A.Ref) (.ref A.Table) = some false
  k_Ref_Instance : PySem.W.kitOne K (.ref A.Ref) (.ref A.Instance) = some false
  k_Ref_Kin : PySem.W.kitOne K (.ref A.Ref) (.ref A.Kin) = some false
  k_Ref_Builtin : PySem.W.kitOne K (.ref A.Ref) (.ref A.Builtin) = some false
  k_Ref_bool : PySem.W.kitOne K (.ref A.Ref) (.type "bool") = some false
  k_Ref_int : PySem.W.kitOne K (.ref A.Ref) (.type "int") = some false
  k_Ref_str : PySem.W.kitOne K (.ref A.Ref) (.type "str") = some false
  k_Builtin_Ref : PySem.W.kitOne K (.ref A.Builtin) (.ref A.Ref) = some false
  k_Builtin_Parts : PySem.W.kitOne K (.ref A.Builtin) (.ref A.Parts) = some false
  k_Builtin_Table : PySem.W.kitOne K (.ref A.Builtin) (.ref A.Table) = some false
  k_Builtin_Instance : PySem.W.kitOne K (.ref A.Builtin) (.ref A.Instance) = some false
  k_Builtin_Kin : PySem.W.kitOne K (.ref A.Builtin) (.ref A.Kin) = some false
  k_Builtin_bool : PySem.W.kitOne K (.ref A.Builtin) (.type "bool") = some false
  k_Builtin_int : PySem.W.kitOne K (.ref A.Builtin) (.type "int") = some false
  k_Builtin_str : PySem.W.kitOne K (.ref A.Builtin) (.type "str") = some false
  k_Parts_Ref : PySem.W.kitOne K (.ref A.Parts) (.ref A.Ref) = some false
  k_Parts_Table : PySem.W.kitOne K (.ref A.Parts) (.ref A.Table) = some false
  k_Parts_Instance : PySem.W.kitOne K (.ref A.Parts) (.ref A.Instance) = some false
  k_Parts_Kin : PySem.W.kitOne K (.ref A.Parts) (.ref A.Kin) = some false
  k_Parts_Builtin : PySem.W.kitOne K (.ref A.Parts) (.ref A.Builtin) = some false
  k_Parts_bool : PySem.W.kitOne K (.ref A.Parts) (.type "bool") = some false
  k_Parts_int : PySem.W.kitOne K (.ref A.Parts) (.type "int") = some false
  k_Parts_str : PySem.W.kitOne K (.ref A.Parts) (.type "str") = some false
  k_Table_Ref : PySem.W.kitOne K (.ref A.Table) (.ref A.Ref) = some false
  k_Table_Parts : PySem.W.kitOne K (.ref A.Table) (.ref A.Parts) = some false
  k_Table_Instance : PySem.W.kitOne K (.ref A.Table) (.ref A.Instance) = some false
  k_Table_Kin : PySem.W.kitOne K (.ref A.Table) (.ref A.Kin) = some false
  k_Table_Builtin : PySem.W.kitOne K (.ref A.Table) (.ref A.Builtin) = some false
  k_Table_bool : PySem.W.kitOne K (.ref A.Table) (.type "bool") = some false
  k_Table_int : PySem.W.kitOne K (.ref A.Table) (.type "int") = some false
  k_Table_str : PySem.W.kitOne K (.ref A.Table) (.type "str") = some false
  k_Instance_Ref : PySem.W.kitOne K (.ref A.Instance) (.ref A.Ref) = some false
  k_Instance_Parts : PySem.W.kitOne K (.ref A.Instance) (.ref A.Parts) = some false
  k_Instance_Table : PySem.W.kitOne K (.ref A.Instance) (.ref A.Table) = some false
  k_Instance_Kin : PySem.W.kitOne K (.ref A.Instance) (.ref A.Kin) = some false
  k_Instance_Builtin : PySem.W.kitOne K (.ref A.Instance) (.ref A.Builtin) = some false
  k_Instance_bool : PySem.W.kitOne K (.ref A.Instance) (.type "bool") = some false
  k_Instance_int : PySem.W.kitOne K (.ref A.Instance) (.type "int") = some false
  k_Instance_str : PySem.W.kitOne K (.ref A.Instance) (.type "str") = some false
  k_Kin_Ref : PySem.W.kitOne K (.ref A.Kin) (.ref A.Ref) = some false
  k_Kin_Parts : PySem.W.kitOne K (.ref A.Kin) (.ref A.Parts) = some false
  k_Kin_Table : PySem.W.kitOne K (.ref A.Kin) (.ref A.Table) = some false
  k_Kin_Instance : PySem.W.kitOne K (.ref A.Kin) (.ref A.Instance) = some false
  k_Kin_Builtin : PySem.W.kitOne K (.ref A.Kin) (.ref A.Builtin) = some false
  k_Kin_bool : PySem.W.kitOne K (.ref A.Kin) (.type "bool") = some false
  k_Kin_int : PySem.W.kitOne K (.ref A.Kin) (.type "int") = some false
  k_Kin_str : PySem.W.kitOne K (.ref A.Kin) (.type "str") = some false
  k_Closure_Ref : PySem.W.kitOne K (.ref A.Closure) (.ref A.Ref) = some false
  k_Closure_Parts : PySem.W.kitOne K (.ref A.Closure) (.ref A.Parts) = some false
  k_Closure_Table : PySem.W.kitOne K (.ref A.Closure) (.ref A.Table) = some false
  k_Closure_Instance : PySem.W.kitOne K (.ref A.Closure) (.ref A.Instance) = some false
  k_Closure_Kin : PySem.W.kitOne K (.ref A.Closure) (.ref A.Kin) = some false
  k_Closure_Builtin : PySem.W.kitOne K (.ref A.Closure) (.ref A.Builtin) = some false
  k_Closure_bool : PySem.W.kitOne K (.ref A.Closure) (.type "bool") = some false
  k_Closure_int : PySem.W.kitOne K (.ref A.Closure) (.type "int") = some false
  k_Closure_str : PySem.W.kitOne K (.ref A.Closure) (.type "str") = some false
  k_Store_Ref : PySem.W.kitOne K (.ref A.Store) (.ref A.Ref) = some false
  k_Store_Parts : PySem.W.kitOne K (.ref A.Store) (.ref A.Parts) = some false
  k_Store_Table : PySem.W.kitOne K (.ref A.Store) (.ref A.Table) = some false
  k_Store_Instance : PySem.W.kitOne K (.ref A.Store) (.ref A.Instance) = some false
  k_Store_Kin : PySem.W.kitOne K (.ref A.Store) (.ref A.Kin) = some false
  k_Store_Builtin : PySem.W.kitOne K (.ref A.Store) (.ref A.Builtin) = some false
  k_Store_bool : PySem.W.kitOne K (.ref A.Store) (.type "bool") = some false
  k_Store_int : PySem.W.kitOne K (.ref A.Store) (.type "int") = some false
  k_Store_str : PySem.W.kitOne K (.ref A.Store) (.type "str") = some false
  k_NoneType_Ref : PySem.W.kitOne K (.type "NoneType") (.ref A.Ref) = some false
  k_NoneType_Parts : PySem.W.kitOne K (.type "NoneType") (.ref A.Parts) = some false
  k_NoneType_Table : PySem.W.kitOne K (.type "NoneType") (.ref A.Table) = some false
  k_NoneType_Instance : PySem.W.kitOne K (.type "NoneType") (.ref A.Instance) = some false
  k_NoneType_Kin : PySem.W.kitOne K (.type "NoneType") (.ref A.Kin) = some false
  k_NoneType_Builtin : PySem.W.kitOne K (.type "NoneType") (.ref A.Builtin) = some false
  k_bool_Ref : PySem.W.kitOne K (.type "bool") (.ref A.Ref) = some false
  k_bool_Parts : PySem.W.kitOne K (.type "bool") (.ref A.Parts) = some false
  k_bool_Table : PySem.W.kitOne K (.type "bool") (.ref A.Table) = some false
  k_bool_Instance : PySem.W.kitOne K (.type "bool") (.ref A.Instance) = some false
  k_bool_Kin : PySem.W.kitOne K (.type "bool") (.ref A.Kin) = some false
  k_bool_Builtin : PySem.W.kitOne K (.type "bool") (.ref A.Builtin) = some false
  k_int_Ref : PySem.W.kitOne K (.type "int") (.ref A.Ref) = some false
  k_int_Parts : PySem.W.kitOne K (.type "int") (.ref A.Parts) = some false
  k_int_Table : PySem.W.kitOne K (.type "int") (.ref A.Table) = some false
  k_int_Instance : PySem.W.kitOne K (.type "int") (.ref A.Instance) = some false
  k_int_Kin : PySem.W.kitOne K (.type "int") (.ref A.Kin) = some false
  k_int_Builtin : PySem.W.kitOne K (.type "int") (.ref A.Builtin) = some false
  k_str_Ref : PySem.W.kitOne K (.type "str") (.ref A.Ref) = some false
  k_str_Parts : PySem.W.kitOne K (.type "str") (.ref A.Parts) = some false
  k_str_Table : PySem.W.kitOne K (.type "str") (.ref A.Table) = some false
  k_str_Instance : PySem.W.kitOne K (.type "str") (.ref A.Instance) = some false
  k_str_Kin : PySem.W.kitOne K (.type "str") (.ref A.Kin) = some false
  k_str_Builtin : PySem.W.kitOne K (.type "str") (.ref A.Builtin) = some false
  k_tuple_Ref : PySem.W.kitOne K (.type "tuple") (.ref A.Ref) = some false
  k_tuple_Parts : PySem.W.kitOne K (.type "tuple") (.ref A.Parts) = some false
  k_tuple_Table : PySem.W.kitOne K (.type "tuple") (.ref A.Table) = some false
  k_tuple_Instance : PySem.W.kitOne K (.type "tuple") (.ref A.Instance) = some false
  k_tuple_Kin : PySem.W.kitOne K (.type "tuple") (.ref A.Kin) = some false
  k_tuple_Builtin : PySem.W.kitOne K (.type "tuple") (.ref A.Builtin) = some false
  k_list_Ref : PySem.W.kitOne K (.type "list") (.ref A.Ref) = some false
  k_list_Parts : PySem.W.kitOne K (.type "list") (.ref A.Parts) = some false
  k_list_Table : PySem.W.kitOne K (.type "list") (.ref A.Table) = some false
  k_list_Instance : PySem.W.kitOne K (.type "list") (.ref A.Instance) = some false
  k_list_Kin : PySem.W.kitOne K (.type "list") (.ref A.Kin) = some false
  k_list_Builtin : PySem.W.kitOne K (.type "list") (.ref A.Builtin) = some false
  nf_Ref_NoneType : PySem.W.notFirst K A.Ref (.type "NoneType") = true
  su_Ref_NoneType : PySem.W.subIn K (.ref A.Ref) (.type "NoneType") = some false
  nf_Ref_int : PySem.W.notFirst K A.Ref (.type "int") = true
  su_Ref_int : PySem.W.subIn K (.ref A.Ref) (.type "int") = some false
  nf_Ref_str : PySem.W.notFirst K A.Ref (.type "str") = true
  su_Ref_str : PySem.W.subIn K (.ref A.Ref) (.type "str") = some false
  nf_Ref_tuple : PySem.W.notFirst K A.Ref (.type "tuple") = true
  su_Ref_tuple : PySem.W.subIn K (.ref A.Ref) (.type "tuple") = some false
  nf_Ref_list : PySem.W.notFirst K A.Ref (.type "list") = true
  su_Ref_list : PySem.W.subIn K (.ref A.Ref) (.type "list") = some false
  nf_Ref_Builtin : PySem.W.notFirst K A.Ref (.ref A.Builtin) = true
  nf_Ref_Parts : PySem.W.notFirst K A.Ref (.ref A.Parts) = true
  nf_Ref_Table : PySem.W.notFirst K A.Ref (.ref A.Table) = true
  nf_Ref_Instance : PySem.W.notFirst K A.Ref (.ref A.Instance) = true
  nf_Ref_Kin : PySem.W.notFirst K A.Ref (.ref A.Kin) = true
  nf_Ref_Closure : PySem.W.notFirst K A.Ref (.ref A.Closure) = true
  nf_Ref_Store : PySem.W.notFirst K A.Ref (.ref A.Store) = true
  nf_Builtin_NoneType : PySem.W.notFirst K A.Builtin (.type "NoneType") = true
  su_Builtin_NoneType : PySem.W.subIn K (.ref A.Builtin) (.type "NoneType") = some false
  nf_Builtin_int : PySem.W.notFirst K A.Builtin (.type "int") = true
  su_Builtin_int : PySem.W.subIn K (.ref A.Builtin) (.type "int") = some false
  nf_Builtin_str : PySem.W.notFirst K A.Builtin (.type "str") = true
  su_Builtin_str : PySem.W.subIn K (.ref A.Builtin) (.type "str") = some false
  nf_Builtin_tuple : PySem.W.notFirst K A.Builtin (.type "tuple") = true
  su_Builtin_tuple : PySem.W.subIn K (.ref A.Builtin) (.type "tuple") = some false
  nf_Builtin_list : PySem.W.notFirst K A.Builtin (.type "list") = true
  su_Builtin_list : PySem.W.subIn K (.ref A.Builtin) (.type "list") = some false
  nf_Builtin_Ref : PySem.W.notFirst K A.Builtin (.ref A.Ref) = true
  nf_Builtin_Parts : PySem.W.notFirst K A.Builtin (.ref A.Parts) = true
  nf_Builtin_Table : PySem.W.notFirst K A.Builtin (.ref A.Table) = true
  nf_Builtin_Instance : PySem.W.notFirst K A.Builtin (.ref A.Instance) = true
  nf_Builtin_Kin : PySem.W.notFirst K A.Builtin (.ref A.Kin) = true
  nf_Builtin_Closure : PySem.W.notFirst K A.Builtin (.ref A.Closure) = true
  nf_Builtin_Store : PySem.W.notFirst K A.Builtin (.ref A.Store) = true
  v_MOST_HELD : ∃ t, mg "MOST_HELD" = some (.int 1000 t)
  v_DOUBTFUL_BITS : ∃ t, mg "DOUBTFUL_BITS" = some (.int 997 t)
  v_ORDERS : Tx K mg "ORDERS" [.str "<", .str "<=", .str ">", .str ">="]
  tagged : Fx K mg "tagged" s_tagged ["key"]
  kind_of : Fx K mg "kind_of" s_kind_of ["store", "value"]
  kind_of_thing : Fx K mg "kind_of_thing" s_kind_of_thing ["thing"]
  is_true : Fx K mg "is_true" s_is_true ["value"]
  equal : Fx K mg "equal" s_equal ["x", "y"]
  is_key : Fx K mg "is_key" s_is_key ["value"]
  is_below : Fx K mg "is_below" s_is_below ["store", "kin", "other"]
  check_size : Fx K mg "check_size" s_check_size ["size"]
  is_bounded : Fx K mg "is_bounded" s_is_bounded ["number"]
  checked_integer : Fx K mg "checked_integer" s_checked_integer ["number"]
  unary : Fx K mg "unary" s_unary ["store", "operator", "x"]
  binary : Fx K mg "binary" s_binary ["store", "operator", "x", "y"]
  is_instance : Fx K mg "is_instance" s_is_instance ["store", "x", "y"]
  kinds_of : Fx K mg "kinds_of" s_kinds_of ["store", "x", "y"]
  refuse_operands : Fx K mg "refuse_operands" s_refuse_operands ["verb", "kinds"]
  add : Fx K mg "add" s_add ["store", "x", "y"]
  compare : Fx K mg "compare" s_compare ["store", "operator", "x", "y"]
  calculate : Fx K mg "calculate" s_calculate ["store", "operator", "x", "y"]
  check_key : Fx K mg "check_key" s_check_key ["key"]
  put_entry : Fx K mg "put_entry" s_put_entry ["table", "key", "value"]
  make_list : Fx K mg "make_list" s_make_list ["store", "values"]
  make_map : Fx K mg "make_map" s_make_map ["store", "pairs"]
  make_class : Fx K mg "make_class" s_make_class ["store", "name", "parent"]
  law_cell : Fx K mg "_law_cell" s_law_cell ["script", "k"]
  law_is_integer : Fx K mg "_law_is_integer" s_law_is_integer ["told"]
  law_begin : Fx K mg "_law_begin" s_law_begin ["script", "k"]
  law_draw : Fx K mg "_law_draw" s_law_draw ["state", "many"]
  law_pick : Fx K mg "_law_pick" s_law_pick ["state", "row"]
  law_text : Fx K mg "_law_text" s_law_text ["state"]
  law_store : Fx K mg "_law_store" s_law_store ["state"]
  law_value : Fx K mg "_law_value" s_law_value ["state", "store"]
  law_kind : Fx K mg "_law_kind" s_law_kind ["store", "value"]
  law_told : Fx K mg "_law_told" s_law_told ["store", "operator", "x", "y"]
  law_added : Fx K mg "_law_added" s_law_added ["store", "x", "y", "told", "many"]
  law_compared : Fx K mg "_law_compared" s_law_compared ["operator", "x", "y"]
  law_is : Fx K mg "_law_is" s_law_is ["store", "above", "x", "y", "told"]
  law_negated : Fx K mg "_law_negated" s_law_negated ["store", "x"]
  Ref_init : Ix K A.Ref "Ref.__init__" s_Ref_init ["self", "number"]
  Ref_eq : Qx K A.Ref "Ref.__eq__" s_Ref_eq ["self", "other"]
  Builtin_init : Ix K A.Builtin "Builtin.__init__" s_Builtin_init ["self", "name"]
  Builtin_eq : Qx K A.Builtin "Builtin.__eq__" s_Builtin_eq ["self", "other"]
  Parts_init : Ix K A.Parts "Parts.__init__" s_Parts_init ["self", "held"]
  Table_init : Ix K A.Table "Table.__init__" s_Table_init ["self"]
  Table_has : Mx K A.Table "has" "Table.has" s_Table_has ["self", "key"]
  Table_put : Mx K A.Table "put" "Table.put" s_Table_put ["self", "key", "value"]
  Table_pairs : Mx K A.Table "pairs" "Table.pairs" s_Table_pairs ["self"]
  Table_many : Px K A.Table "many" "Table.many" s_Table_many ["self"]
  Instance_init : Ix K A.Instance "Instance.__init__" s_Instance_init ["self", "owner"]
  Kin_init : Ix K A.Kin "Kin.__init__" s_Kin_init ["self", "name", "parent"]
  Closure_init : Ix K A.Closure "Closure.__init__" s_Closure_init ["self", "number", "wanted", "scope"]
  Store_init : Ix K A.Store "Store.__init__" s_Store_init ["self", "lines"]
  Store_make : Mx K A.Store "make" "Store.make" s_Store_make ["self", "thing"]
  Store_at : Mx K A.Store "at" "Store.at" s_Store_at ["self", "ref"]
end My
namespace My
open PySem L2 SX XT XS XE
open C8 (pss_cut tCut cutS_slice pe_gc)
def Keep (p : Addr) (H H' : Hp) : Prop := ∀ b o, H b = some o → b ≠ p → H' b = some o
theorem Same.keep {p : Addr} {H H' : Hp} (s : Same H H') : Keep p H H' := fun b o e _ => s b o e
theorem Keep.trans {p : Addr} {H H1 H2 : Hp} (a : Keep p H H1) (b : Keep p H1 H2) : Keep p H H2 := fun c o e n => b c o (a c o e n) n
theorem keep_upd {p : Addr} {H : Hp} {o : HO} : Keep p H (upd H p o) := fun b x e n => by
  rw [upd_ne n]
  exact e
theorem same_upd {H : Hp} {p : Addr} {o : HO} (h : H p = none) : Same H (upd H p o) := fun b x e => by
  rw [upd_ne (ne_of_none e h)]
  exact e
theorem lk_hit {k : Str} {v : V} {r : List (Str × V)} : ((k, v) :: r).lookup k = some v := by
  simp [List.lookup]
theorem ifF {b : Bool} {A B : Prop} (h : b = false) (q : B) : if b = true then A else B := by
  rw [h]
  exact iteF q
theorem ifT {b : Bool} {A B : Prop} (h : b = true) (q : A) : if b = true then A else B := by
  rw [h]
  exact iteT q
theorem ite_or {b : Bool} {A B : Prop} (h1 : b = true → A) (h2 : b = false → B) : if b = true then A else B := by
  cases b with
  | true => exact iteT (h1 rfl)
  | false => exact iteF (h2 rfl)
theorem lk_skip {k k' : Str} {v : V} {r : List (Str × V)} (h : (k == k') = false) : ((k', v) :: r).lookup k = r.lookup k := by
  simp [List.lookup, h]
theorem kit_self {K : PySem.W.Frag} (C : Addr) : PySem.W.kitOne K (.ref C) (.ref C) = some true := if_pos (beq_self_eq_true _)
theorem nf_self {K : PySem.W.Frag} (C : Addr) : PySem.W.notFirst K C (.ref C) = true := by simp [PySem.W.notFirst]
theorem ne_cls {K : PySem.W.Frag} {C D : Addr} (h : PySem.W.kitOne K (.ref C) (.ref D) = some false) : C ≠ D := fun z => by
  rw [z, kit_self] at h
  cases h
theorem sqt_same {K : PySem.W.Frag} {H H' : Hp} {r : Addr} {xs : List V} (s : Same H H') (h : SqT K H r xs) : SqT K H' r xs := by
  rcases h with (h | ⟨ob, h⟩) | h
  · exact .inl (.inl (s _ _ h))
  · exact .inl (.inr ⟨ob, s _ _ h⟩)
  · exact .inr h
theorem Same.put {H H' : Hp} {p : Addr} {o : HO} (s : Same H H') (h : H p = none) : Same H (upd H' p o) := fun b x e => by
  rw [upd_ne (ne_of_none e h)]
  exact s _ _ e
theorem seq_nat {i n : Nat} (h : i < n) : seqIndex? (i : Int) n = some i := by
  unfold seqIndex?
  split <;> first | (simp; omega) | (simp_all; try omega)
theorem ixN_nat {i n : Nat} (h : i < n) : ixN n (i : Int) = some i := by
  unfold ixN
  split <;> first | (simp; omega) | (simp_all; try omega)
end My
namespace My
open PySem L2 SX
open C8 (pss_cut tCut cutS_slice pe_gc)
/-! ### == between values of which one has its own __eq__ -/
section
variable {prog : Program} {w : World} {A : Around} {E : Value → Shared → Prop} {s : Shared} {K : PySem.W.Frag} {x C L f : Addr} {h₀ : Heap} {m : Str → Option Value} {ox : Obj} {od : Option Obj}
theorem cmp_back {a : Value} {Ta id : String} {Q : Value → Shared → Prop} (hu : A.units < cLine) (F : PyProof.Rows.Fr h₀ L s.heap m) (X₀ : K.In h₀) (I : PySem.W.InstAt s.heap x ox C od) (ha : s.TypeIs a Ta) (h1 : Slot Ta "__eq__" id)
    (hsub : PySem.W.subIn K (.ref C) (.type Ta) = some false) (hc : ∀ Q' : Value → Shared → Prop, Q' .notImplemented s → wpAny (model prog w) A (call (.builtin id) [a, .ref x]) Q' E s)
    (hs : PySem.W.findIn K (.ref C) "__eq__" = some (some (.ref f))) (hf : PySem.W.isFn K (.ref f) = true)
    (h : wpAny (model prog w) A (call (.ref f) [.ref x, a]) (PySem.W.CmpBack Q) E s) : wpAny (model prog w) A (richCompare .Eq a (.ref x)) Q E s := by
  have X := X₀.keeps F.keep
  have one : wpAny (model prog w) A (tryCompare (.ref x) "__eq__" a) (fun r s' => ∃ v, r = some v ∧ Q v s') E s := by
    unfold tryCompare
    refine wpAny_bind (PySem.W.ifBound_K X I hs hf (wpAny_mono h (fun v s' hv => ?_) fun _ _ e => e))
    cases v <;> first | exact hv.elim | exact wpAny_pure ⟨_, rfl, hv⟩
  unfold richCompare
  simp only [cmpInfo, ha.oneThing_none]
  refine wpAny_holding (wpAny_bind (wpAny_cRoomFor hu ?_))
  refine wpAny_bind (wpAny_typeOf ha (wpAny_bind (I.type.here ?_)))
  have hne : (Value.ref C == Value.type Ta) = false := rfl
  have hne' : (Value.type Ta != Value.ref C) = true := rfl
  simp only [hne', if_true]
  refine wpAny_bind ((PySem.W.looks_subIn X hsub).here ?_)
  simp only [Bool.false_eq_true, if_false, Bool.not_false, if_true]
  refine wpAny_bind (m := tryCompare a _ _) (wpAny_tryCompare_declines ha h1 (hc _ ⟨rfl, ?_⟩))
  refine wpAny_bind (wpAny_mono one (fun r s' z => ?_) fun _ _ e => e)
  obtain ⟨v, rfl, hq⟩ := z
  exact wpAny_pure hq
end
theorem int_eq_declines_ins (b : Int) (u : Tok) (l : Addr) (o : Obj) :
    PySem.Meets (Builtin.«int.__eq__» ⟨[.int b u, .ref l], []⟩) (fun _ R s => s.heap.get? l = some o ∧ o.data = .plain ∧ (∃ C, o.cls = .ref C) ∧ R (.ok (.ret .notImplemented)) s) :=
  .of_wp fun prog w A R s h => by
    obtain ⟨hp, g, d, tk, os⟩ := s
    obtain ⟨hl, hd, ⟨C, hC⟩, h⟩ := h
    obtain ⟨cls, dd, dat, sl⟩ := o
    cases hd
    cases hC
    wp_walk using PySem.AutoSeq1.wpAny_loadPart' hl, wpAny_load hl
    exact ⟨_, rfl, h⟩
theorem str_eq_declines_ins (b : Str) (u : Tok) (l : Addr) (o : Obj) :
    PySem.Meets (Builtin.«str.__eq__» ⟨[.str b u, .ref l], []⟩) (fun _ R s => s.heap.get? l = some o ∧ o.data = .plain ∧ (∃ C, o.cls = .ref C) ∧ R (.ok (.ret .notImplemented)) s) :=
  .of_wp fun prog w A R s h => by
    obtain ⟨hp, g, d, tk, os⟩ := s
    obtain ⟨hl, hd, ⟨C, hC⟩, h⟩ := h
    obtain ⟨cls, dd, dat, sl⟩ := o
    cases hd
    cases hC
    wp_walk using PySem.AutoSeq1.wpAny_loadPart' hl, wpAny_load hl
    exact ⟨_, rfl, h⟩
/-- the type of a scalar or of an instance -/
inductive TyE (H : Hp) : V → Value → Prop where
  | non : TyE H .non (.type "NoneType")
  | bl (b : Bool) : TyE H (.bl b) (.type "bool")
  | int (i : Int) : TyE H (.int i) (.type "int")
  | str (x : Str) : TyE H (.str x) (.type "str")
  | ins {a C dx : Addr} {fs : List (Str × V)} (e : H a = some (.ins C dx fs)) : TyE H (.ref a) (.ref C)
theorem TyE.looks {X : Cx} {pins : List (Addr × Obj)} {s : Shared} {σ : St} {H : Hp} {y : V} {u t : Value} (I : Inv X pins σ H s) (r : RelV y u) (ty : TyE H y t) : PySem.W.Looks (model X.prog X.w) s.heap (typeOf u) t := by
  cases ty with
  | non => cases (show u = Value.none from r); exact .of_pure rfl
  | bl b => cases (show u = Value.bool b from r); exact .of_pure rfl
  | int i => obtain ⟨t', e⟩ := (show ∃ t, u = Value.int i t from r); cases e; exact .of_pure rfl
  | str x => obtain ⟨t', e⟩ := (show ∃ t, u = Value.str x t from r); cases e; exact .of_pure rfl
  | ins e =>
    cases (show u = Value.ref _ from r)
    obtain ⟨mA, J, _⟩ := ins_get I.hok e
    obtain ⟨od, J, _⟩ := J.look
    exact J.type
/-- what the call of the own == gives back -/
theorem own_run {X : Cx} {n : Nat} {CX : CXT} {f : Addr} {fd : FuncData} {ps : List Str} {sp : Sp} {E : XK} (F : FnOk X.prog X.w X.K X.mg X.base CX n f fd ps sp) (hb : Binds X.K fd ps []) (hx : Passes CX X E) (hr : Room n X.A)
    {pins : List (Addr × Obj)} {s : Shared} {σ : St} {H : Hp} {x y : V} {v u : Value} {Q : VK} (I : Inv X pins σ H s) (rx : RelV x v) (ry : RelV y u) (h : sp [x, y] H (fun z H' => ∃ b, z = .bl b ∧ Q (.bl b) H') E) :
    wpAny (model X.prog X.w) X.A (call (.ref f) [v, u]) (PySem.W.CmpBack (EP X pins σ Q)) X.xe s := by
  have hl := F.len _ _ _ _ h
  have r2 : Vals [x, y] [v, u] := .cons rx (.cons ry .nil)
  refine wpAny_call (codeAny_mono (F.run X.A X.stack s H ⟨[v, u], []⟩ [v, u] [x, y] _ E hr I.env0 (by
    have := hb s [v, u] I.kIn (by simpa using hl)
    simpa using this) r2 h) fun r s' hq => ?_)
  cases r with
  | error e => exact hx pins σ H s e s' I hq
  | ok fl =>
    cases fl with
    | ret w =>
      obtain ⟨z, H', I', rz, b, ez, q⟩ := I.after hq
      subst ez
      cases (show w = Value.bool b from rz)
      exact ⟨.bl b, H', I', rfl, q⟩
    | next => exact False.elim hq
    | brk => exact False.elim hq
    | cont => exact False.elim hq
/-- an instance with its own == on the left -/
theorem op_eqL {X : Cx} {n : Nat} {CX : CXT} {C f : Addr} {fd : FuncData} {ps : List Str} {sp : Sp} {E : XK} (O : OwnEq X.K C f) (F : FnOk X.prog X.w X.K X.mg X.base CX n f fd ps sp) (hb : Binds X.K fd ps []) (hx : Passes CX X E) (hr : Room n X.A) :
    OpR X (compareOp .Eq) (fun x y H Q => ∃ a dx fs tb, x = .ref a ∧ H a = some (.ins C dx fs) ∧ TyE H y tb ∧ PySem.W.notFirst X.K C tb = true ∧ sp [x, y] H (fun z H' => ∃ b, z = .bl b ∧ Q (.bl b) H') E) := by
  intro pins s σ H x y v u Q I rx ry h
  obtain ⟨a, dx, fs, tb, rfl, ha, ty, hn, h⟩ := h
  cases (show v = Value.ref a from rx)
  obtain ⟨mA, J, _⟩ := ins_get I.hok ha
  obtain ⟨od, J, _⟩ := J.look
  obtain ⟨m, hF⟩ := I.fr
  show wpAny (model X.prog X.w) X.A (richCompare .Eq (.ref a) u) (EP X pins σ Q) X.xe s
  exact PySem.W.cmp_K (op := .Eq) hr.units0 hF I.ok.mod.kin J (ty.looks I ry) hn O.at_ O.fn (own_run F hb hx hr I (x := .ref a) (v := .ref a) rfl ry h)
/-- a scalar on the left, an instance with its own == on the right -/
theorem op_eqR {X : Cx} {n : Nat} {CX : CXT} {C f : Addr} {fd : FuncData} {ps : List Str} {sp : Sp} {E : XK} (O : OwnEq X.K C f) (F : FnOk X.prog X.w X.K X.mg X.base CX n f fd ps sp) (hb : Binds X.K fd ps []) (hx : Passes CX X E) (hr : Room n X.A)
    (h1 : PySem.W.subIn X.K (.ref C) (.type "NoneType") = some false) (h2 : PySem.W.subIn X.K (.ref C) (.type "int") = some false) (h3 : PySem.W.subIn X.K (.ref C) (.type "str") = some false) :
    OpR X (compareOp .Eq) (fun x y H Q => ∃ a dx fs, y = .ref a ∧ H a = some (.ins C dx fs) ∧ (x = .non ∨ (∃ i, x = .int i) ∨ ∃ z, x = .str z) ∧ sp [y, x] H (fun z H' => ∃ b, z = .bl b ∧ Q (.bl b) H') E) := by
  intro pins s σ H x y v u Q I rx ry h
  obtain ⟨a, dx, fs, rfl, ha, hx', h⟩ := h
  cases (show u = Value.ref a from ry)
  obtain ⟨mA, J, _⟩ := ins_get I.hok ha
  have hob := J.obj
  obtain ⟨od, J, _⟩ := J.look
  obtain ⟨m, hF⟩ := I.fr
  show wpAny (model X.prog X.w) X.A (richCompare .Eq v (.ref a)) (EP X pins σ Q) X.xe s
  have hc := own_run F hb hx hr I (x := .ref a) (v := .ref a) (u := v) rfl rx h
  rcases hx' with rfl | ⟨i, rfl⟩ | ⟨z, rfl⟩
  · cases (show v = Value.none from rx)
    exact cmp_back hr.units0 hF I.ok.mod.kin J (Ta := "NoneType") rfl PySem.F.slot_NoneType_eq h1 (fun Q' hq => call_gives PySem.F.slot_NoneType_eq rfl PySem.F.entry_NoneType_eq (PySem.F.args_NoneType_eq_2 _ _) (SeqAt.NoneType___eq___none_ref_0 a) hq) O.at_ O.fn hc
  · obtain ⟨t, rfl⟩ := (show ∃ t, v = Value.int i t from rx)
    exact cmp_back hr.units0 hF I.ok.mod.kin J (Ta := "int") (typeIs_int s i t) PySem.F.slot_int_eq h2 (fun Q' hq => call_meets PySem.F.slot_int_eq (typeIs_int s i t) PySem.F.entry_int_eq (PySem.F.args_int_eq_2 _ _) (int_eq_declines_ins i t a _) ⟨hob, rfl, ⟨_, rfl⟩, hq⟩) O.at_ O.fn hc
  · obtain ⟨t, rfl⟩ := (show ∃ t, v = Value.str z t from rx)
    exact cmp_back hr.units0 hF I.ok.mod.kin J (Ta := "str") (typeIs_str s z t) PySem.F.slot_str_eq h3 (fun Q' hq => call_meets PySem.F.slot_str_eq (typeIs_str s z t) PySem.F.entry_str_eq (PySem.F.args_str_eq_2 _ _) (str_eq_declines_ins z t a _) ⟨hob, rfl, ⟨_, rfl⟩, hq⟩) O.at_ O.fn hc
end My
namespace My
open PySem L2 SX XT XS XE
open C8 (pss_cut tCut cutS_slice pe_gc)
/-! ### values -/
inductive Dv where
  | non
  | bl (b : Bool)
  | int (i : Int)
  | str (x : Str)
  | obj (n : Nat)
  | bi (x : Str)
  deriving DecidableEq
abbrev refF (n : Nat) : List (Str × V) := [("number", .int (n : Nat))]
def Has (A : Ads) (H : Hp) : V → Dv → Prop := fun v d => match d with
  | .non => v = .non
  | .bl b => v = .bl b
  | .int i => v = .int i
  | .str x => v = .str x
  | .obj n => ∃ a dx, v = .ref a ∧ H a = some (.ins A.Ref dx (refF n))
  | .bi x => ∃ a dx, v = .ref a ∧ H a = some (.ins A.Builtin dx [("name", .str x)])
/-- what is not a list stays -/
def Sv (H H' : Hp) : Prop := ∀ b u, H b = some u → (∀ xs, u ≠ .lst xs) → H' b = some u
theorem Same.sv {H H' : Hp} (s : Same H H') : Sv H H' := fun b u e _ => s b u e
theorem Sv.trans {H H1 H2 : Hp} (a : Sv H H1) (b : Sv H1 H2) : Sv H H2 := fun c u e n => b c u (a c u e n) n
theorem Keep.sv {H H' : Hp} {p : Addr} {xs : List V} (k : Keep p H H') (hp : H p = some (.lst xs)) : Sv H H' := fun b u e n => k b u e fun z => by
  rw [z, hp] at e
  exact n _ (Option.some.inj e).symm
theorem Has.sv {A : Ads} {H H' : Hp} (s : Sv H H') {v : V} {d : Dv} (h : Has A H v d) : Has A H' v d := by
  cases d with
  | obj n =>
    obtain ⟨a, dx, rfl, e⟩ := h
    exact ⟨a, dx, rfl, s _ _ e fun _ z => by cases z⟩
  | bi x =>
    obtain ⟨a, dx, rfl, e⟩ := h
    exact ⟨a, dx, rfl, s _ _ e fun _ z => by cases z⟩
  | _ => exact h
def Hs (A : Ads) (H : Hp) : List V → List Dv → Prop
  | [], [] => True
  | v :: vs, d :: ds => Has A H v d ∧ Hs A H vs ds
  | _, _ => False
theorem Hs.imp {A : Ads} {H H' : Hp} (s : ∀ v d, Has A H v d → Has A H' v d) : ∀ {vs : List V} {ds : List Dv}, Hs A H vs ds → Hs A H' vs ds
  | [], [], _ => trivial
  | _ :: _, _ :: _, h => ⟨s _ _ h.1, Hs.imp s h.2⟩
  | [], _ :: _, h => h.elim
  | _ :: _, [], h => h.elim
theorem Hs.len {A : Ads} {H : Hp} : ∀ {vs : List V} {ds : List Dv}, Hs A H vs ds → vs.length = ds.length
  | [], [], _ => rfl
  | _ :: _, _ :: _, h => congrArg (· + 1) (Hs.len h.2)
  | [], _ :: _, h => h.elim
  | _ :: _, [], h => h.elim
theorem Hs.at {A : Ads} {H : Hp} : ∀ {vs : List V} {ds : List Dv} {i : Nat} {d : Dv}, Hs A H vs ds → ds[i]? = some d → ∃ v, vs[i]? = some v ∧ Has A H v d
  | _ :: _, _ :: _, 0, _, h, e => by
    simp at e
    exact ⟨_, rfl, e ▸ h.1⟩
  | _ :: _, _ :: _, i + 1, _, h, e => by
    simp at e
    obtain ⟨v, e1, e2⟩ := Hs.at h.2 e
    exact ⟨v, by simpa using e1, e2⟩
  | [], _ :: _, _, _, h, _ => h.elim
  | _ :: _, [], _, _, h, _ => h.elim
  | [], [], _, _, _, e => by simp at e
theorem Hs.app {A : Ads} {H : Hp} : ∀ {vs us : List V} {ds es : List Dv}, Hs A H vs ds → Hs A H us es → Hs A H (vs ++ us) (ds ++ es)
  | [], _, [], _, _, h => h
  | _ :: _, _, _ :: _, _, h, g => ⟨h.1, Hs.app h.2 g⟩
  | [], _, _ :: _, _, h, _ => h.elim
  | _ :: _, _, [], _, h, _ => h.elim
theorem Hs.rev {A : Ads} {H : Hp} : ∀ {vs : List V} {ds : List Dv}, Hs A H vs ds → Hs A H vs.reverse ds.reverse
  | [], [], _ => trivial
  | v :: vs, d :: ds, h => by
    rw [List.reverse_cons, List.reverse_cons]
    exact (Hs.rev h.2).app ⟨h.1, trivial⟩
  | [], _ :: _, h => h.elim
  | _ :: _, [], h => h.elim
theorem Hs.drop {A : Ads} {H : Hp} : ∀ {vs : List V} {ds : List Dv} (n : Nat), Hs A H vs ds → Hs A H (vs.drop n) (ds.drop n)
  | _, _, 0, h => by simpa using h
  | [], [], _ + 1, _ => trivial
  | _ :: _, _ :: _, n + 1, h => Hs.drop n h.2
  | [], _ :: _, _ + 1, h => h.elim
  | _ :: _, [], _ + 1, h => h.elim
theorem Hs.take {A : Ads} {H : Hp} : ∀ {vs : List V} {ds : List Dv} (n : Nat), Hs A H vs ds → Hs A H (vs.take n) (ds.take n)
  | _, _, 0, _ => by simp [Hs]
  | [], [], _ + 1, _ => trivial
  | _ :: _, _ :: _, n + 1, h => ⟨h.1, Hs.take n h.2⟩
  | [], _ :: _, _ + 1, h => h.elim
  | _ :: _, [], _ + 1, h => h.elim
/-! ### kinds -/
def dB : Dv → Bool
  | .bl _ => true
  | _ => false
def dI : Dv → Bool
  | .bl _ => true
  | .int _ => true
  | _ => false
def dS : Dv → Bool
  | .str _ => true
  | _ => false
def dR : Dv → Bool
  | .obj _ => true
  | _ => false
def dBi : Dv → Bool
  | .bi _ => true
  | _ => false
def tyD (A : Ads) : Dv → Value
  | .non => .type "NoneType"
  | .bl _ => .type "bool"
  | .int _ => .type "int"
  | .str _ => .type "str"
  | .obj _ => .ref A.Ref
  | .bi _ => .ref A.Builtin
section
variable {P : Program} {w : World} {K : PySem.W.Frag} {mg : Str → Option Value} {base : Heap} {A : Ads}
theorem has_ty (L : Lib P K mg A) {H : Hp} {v : V} {d : Dv} (h : Has A H v d) : TyX K H v (tyD A d) := by
  cases d with
  | non => cases h; exact .base .non
  | bl b => cases h; exact .base (.bl b)
  | int b => cases h; exact .base (.int b)
  | str b => cases h; exact .base (.str b)
  | obj n =>
    obtain ⟨a, dx, rfl, h⟩ := h
    exact L.c_Ref.ty h
  | bi n =>
    obtain ⟨a, dx, rfl, h⟩ := h
    exact L.c_Builtin.ty h
theorem kit_bool (L : Lib P K mg A) (d : Dv) : PySem.W.kitOne K (tyD A d) (.type "bool") = some (dB d) := by
  cases d with
  | non => exact kit_ty (show kitB "NoneType" "bool" = some false by decide +kernel)
  | bl b => exact kit_ty (show kitB "bool" "bool" = some true by decide +kernel)
  | int b => exact kit_ty (show kitB "int" "bool" = some false by decide +kernel)
  | str b => exact kit_ty (show kitB "str" "bool" = some false by decide +kernel)
  | obj n => exact L.k_Ref_bool
  | bi n => exact L.k_Builtin_bool
theorem kit_int (L : Lib P K mg A) (d : Dv) : PySem.W.kitOne K (tyD A d) (.type "int") = some (dI d) := by
  cases d with
  | non => exact kit_ty (show kitB "NoneType" "int" = some false by decide +kernel)
  | bl b => exact kit_ty (show kitB "bool" "int" = some true by decide +kernel)
  | int b => exact kit_ty (show kitB "int" "int" = some true by decide +kernel)
  | str b => exact kit_ty (show kitB "str" "int" = some false by decide +kernel)
  | obj n => exact L.k_Ref_int
  | bi n => exact L.k_Builtin_int
theorem kit_str (L : Lib P K mg A) (d : Dv) : PySem.W.kitOne K (tyD A d) (.type "str") = some (dS d) := by
  cases d with
  | non => exact kit_ty (show kitB "NoneType" "str" = some false by decide +kernel)
  | bl b => exact kit_ty (show kitB "bool" "str" = some false by decide +kernel)
  | int b => exact kit_ty (show kitB "int" "str" = some false by decide +kernel)
  | str b => exact kit_ty (show kitB "str" "str" = some true by decide +kernel)
  | obj n => exact L.k_Ref_str
  | bi n => exact L.k_Builtin_str
theorem kit_R (L : Lib P K mg A) (d : Dv) : PySem.W.kitOne K (tyD A d) (.ref A.Ref) = some (dR d) := by
  cases d with
  | non => exact L.k_NoneType_Ref
  | bl b => exact L.k_bool_Ref
  | int b => exact L.k_int_Ref
  | str b => exact L.k_str_Ref
  | obj n => exact kit_self _
  | bi n => exact L.k_Builtin_Ref
theorem kit_B (L : Lib P K mg A) (d : Dv) : PySem.W.kitOne K (tyD A d) (.ref A.Builtin) = some (dBi d) := by
  cases d with
  | non => exact L.k_NoneType_Builtin
  | bl b => exact L.k_bool_Builtin
  | int b => exact L.k_int_Builtin
  | str b => exact L.k_str_Builtin
  | obj n => exact L.k_Ref_Builtin
  | bi n => exact kit_self _
theorem kit_list_list {K : PySem.W.Frag} : PySem.W.kitOne K (.type "list") (.type "list") = some true := kit_ty (show kitB "list" "list" = some true by decide +kernel)
/-! ### Ref, Builtin -/
def spI1 (C : Addr) (n : Str) : Sp := fun vs H Q _ => ∃ a dx v, vs = [.ref a, v] ∧ H a = some (.ins C dx []) ∧ ∀ H', Keep a H H' → H' a = some (.ins C dx [(n, v)]) → Q .non H'
theorem ok_Ref_init (L : Lib P K mg A) : FnOk P w K mg base CX0 1 L.Ref_init.f L.Ref_init.fd ["self", "number"] (spI1 A.Ref "number") := by
  refine L.Ref_init.F.ok sc_Ref_init (fun vs H Q E h => ?_) (fun cdv A' outer s H vs Q E hr h => ?_)
  · obtain ⟨a, dx, v, rfl, _⟩ := h
    rfl
  · obtain ⟨a, dx, v, rfl, ha, q⟩ := h
    refine ⟨_, (pss_one (ps_fld (pv 0) (pv 1) rfl)), ?_⟩
    exact ⟨_, rfl, _, rfl, a, A.Ref, dx, [], rfl, ha, L.c_Ref.cl, L.n_Ref_number, (by show 0 < 1000; decide), q _ keep_upd upd_same⟩
theorem ok_Builtin_init (L : Lib P K mg A) : FnOk P w K mg base CX0 1 L.Builtin_init.f L.Builtin_init.fd ["self", "name"] (spI1 A.Builtin "name") := by
  refine L.Builtin_init.F.ok sc_Builtin_init (fun vs H Q E h => ?_) (fun cdv A' outer s H vs Q E hr h => ?_)
  · obtain ⟨a, dx, v, rfl, _⟩ := h
    rfl
  · obtain ⟨a, dx, v, rfl, ha, q⟩ := h
    refine ⟨_, (pss_one (ps_fld (pv 0) (pv 1) rfl)), ?_⟩
    exact ⟨_, rfl, _, rfl, a, A.Builtin, dx, [], rfl, ha, L.c_Builtin.cl, L.n_Builtin_name, (by show 0 < 1000; decide), q _ keep_upd upd_same⟩
def spERq (A : Ads) : Sp := fun vs H Q _ => ∃ a dx n y d, vs = [.ref a, y] ∧ H a = some (.ins A.Ref dx (refF n)) ∧ Has A H y d ∧ Q (.bl (decide (Dv.obj n = d))) H
theorem ok_Ref_eq (L : Lib P K mg A) : FnOk P w K mg base CX0 1 L.Ref_eq.f L.Ref_eq.fd ["self", "other"] (spERq A) := by
  refine L.Ref_eq.F.ok sc_Ref_eq (fun vs H Q E h => ?_) (fun cdv A' outer s H vs Q E hr h => ?_)
  · obtain ⟨a, dx, n, y, d, rfl, _⟩ := h
    rfl
  · obtain ⟨a, dx, n, y, d, rfl, ha, hy, q⟩ := h
    refine ⟨_, (pss_one (ps_ret (pe_and (pe_callB call_isi (by rfl) L.z_isinstance (by decide +kernel) (pa_cons (pv 1) (pa_cons (pe_gc (v := .ref A.Ref) (by rfl) ⟨_, L.c_Ref.g, rfl⟩) pa_nil))) (pe_one (pe_cmpR op_eq (pe_fld (pv 0) rfl) (pe_fld (pv 1) rfl) (nomark _)))))), ?_⟩
    refine ⟨_, rfl, y, .ref A.Ref, tyD A d, .ref A.Ref, dR d, rfl, .own _, has_ty L hy, kit_R L d, dR d, rfl, ?_⟩
    cases d with
    | obj m =>
      obtain ⟨b, dy, rfl, hb⟩ := hy
      refine iteT ⟨_, rfl, a, A.Ref, dx, _, _, rfl, ha, L.c_Ref.cl, L.n_Ref_number, lk_hit, _, rfl, b, A.Ref, dy, _, _, rfl, hb, L.c_Ref.cl, L.n_Ref_number, lk_hit, rfl, ?_⟩
      rw [show decide (V.int (n : Nat) = V.int (m : Nat)) = decide (Dv.obj n = Dv.obj m) by simp; omega]
      exact q
    | _ => exact iteF (by simpa using q)
def spEBq (A : Ads) : Sp := fun vs H Q _ => ∃ a dx n y d, vs = [.ref a, y] ∧ H a = some (.ins A.Builtin dx [("name", .str n)]) ∧ Has A H y d ∧ Q (.bl (decide (Dv.bi n = d))) H
theorem ok_Builtin_eq (L : Lib P K mg A) : FnOk P w K mg base CX0 1 L.Builtin_eq.f L.Builtin_eq.fd ["self", "other"] (spEBq A) := by
  refine L.Builtin_eq.F.ok sc_Builtin_eq (fun vs H Q E h => ?_) (fun cdv A' outer s H vs Q E hr h => ?_)
  · obtain ⟨a, dx, n, y, d, rfl, _⟩ := h
    rfl
  · obtain ⟨a, dx, n, y, d, rfl, ha, hy, q⟩ := h
    refine ⟨_, (pss_one (ps_ret (pe_and (pe_callB call_isi (by rfl) L.z_isinstance (by decide +kernel) (pa_cons (pv 1) (pa_cons (pe_gc (v := .ref A.Builtin) (by rfl) ⟨_, L.c_Builtin.g, rfl⟩) pa_nil))) (pe_one (pe_cmpR op_eq (pe_fld (pv 0) rfl) (pe_fld (pv 1) rfl) (nomark _)))))), ?_⟩
    refine ⟨_, rfl, y, .ref A.Builtin, tyD A d, .ref A.Builtin, dBi d, rfl, .own _, has_ty L hy, kit_B L d, dBi d, rfl, ?_⟩
    cases d with
    | bi m =>
      obtain ⟨b, dy, rfl, hb⟩ := hy
      refine iteT ⟨_, rfl, a, A.Builtin, dx, _, _, rfl, ha, L.c_Builtin.cl, L.n_Builtin_name, lk_hit, _, rfl, b, A.Builtin, dy, _, _, rfl, hb, L.c_Builtin.cl, L.n_Builtin_name, lk_hit, rfl, ?_⟩
      rw [show decide (V.str n = V.str m) = decide (Dv.bi n = Dv.bi m) by simp]
      exact q
    | _ => exact iteF (by simpa using q)
/-- == of two values, of which either both are booleans or none is -/
def rEqM (A : Ads) : R2 := fun x y H Q => ∃ d e, Has A H x d ∧ Has A H y e ∧ dB d = dB e ∧ Q (.bl (decide (d = e))) H
theorem op_eqM {X : Cx} (L : Lib X.prog X.K X.mg A) (hr : Room 1 X.A) : OpR X (compareOp .Eq) (rEqM A) := by
  have FR : FnOk X.prog X.w X.K X.mg X.base CX0 1 L.Ref_eq.f L.Ref_eq.fd ["self", "other"] (spERq A) := ok_Ref_eq L
  have FB : FnOk X.prog X.w X.K X.mg X.base CX0 1 L.Builtin_eq.f L.Builtin_eq.fd ["self", "other"] (spEBq A) := ok_Builtin_eq L
  intro pins s σ H x y v u Q I rx ry h
  obtain ⟨d, e, hd, he, hb, q⟩ := h
  have tyE : ∀ {z : V} {g : Dv}, Has A H z g → TyE H z (tyD A g) := by
    intro z g hz
    cases g with
    | non => cases hz; exact .non
    | bl b => cases hz; exact .bl b
    | int b => cases hz; exact .int b
    | str b => cases hz; exact .str b
    | obj n =>
      obtain ⟨a, dx, rfl, hz⟩ := hz
      exact .ins hz
    | bi n =>
      obtain ⟨a, dx, rfl, hz⟩ := hz
      exact .ins hz
  have nfR : dB e = false → PySem.W.notFirst X.K A.Ref (tyD A e) = true := by
    intro z
    cases e with
    | non => exact L.nf_Ref_NoneType
    | bl b => cases z
    | int b => exact L.nf_Ref_int
    | str b => exact L.nf_Ref_str
    | obj n => exact nf_self _
    | bi n => exact L.nf_Ref_Builtin
  have nfB : dB e = false → PySem.W.notFirst X.K A.Builtin (tyD A e) = true := by
    intro z
    cases e with
    | non => exact L.nf_Builtin_NoneType
    | bl b => cases z
    | int b => exact L.nf_Builtin_int
    | str b => exact L.nf_Builtin_str
    | obj n => exact L.nf_Builtin_Ref
    | bi n => exact nf_self _
  cases hdd : d with
  | obj n =>
    subst hdd
    obtain ⟨a, dx, rfl, ha⟩ := hd
    exact op_eqL L.Ref_eq.m FR L.Ref_eq.b (E := E0) pass0 hr pins s σ H _ y v u Q I rx ry ⟨a, dx, _, _, rfl, ha, tyE he, nfR hb.symm, a, dx, n, y, e, rfl, ha, he, _, rfl, q⟩
  | bi n =>
    subst hdd
    obtain ⟨a, dx, rfl, ha⟩ := hd
    exact op_eqL L.Builtin_eq.m FB L.Builtin_eq.b (E := E0) pass0 hr pins s σ H _ y v u Q I rx ry ⟨a, dx, _, _, rfl, ha, tyE he, nfB hb.symm, a, dx, n, y, e, rfl, ha, he, _, rfl, q⟩
  | _ =>
    subst hdd
    cases hee : e with
    | obj n =>
      subst hee
      obtain ⟨a, dx, rfl, ha⟩ := he
      first
        | (cases hb; done)
        | exact op_eqR L.Ref_eq.m FR L.Ref_eq.b (E := E0) pass0 hr L.su_Ref_NoneType L.su_Ref_int L.su_Ref_str pins s σ H _ _ v u Q I rx ry ⟨a, dx, _, rfl, ha, (by first | exact .inl hd | exact .inr (.inl ⟨_, hd⟩) | exact .inr (.inr ⟨_, hd⟩)), a, dx, n, _, _, rfl, ha, hd, _, rfl, by simpa [eq_comm] using q⟩
    | bi n =>
      subst hee
      obtain ⟨a, dx, rfl, ha⟩ := he
      first
        | (cases hb; done)
        | exact op_eqR L.Builtin_eq.m FB L.Builtin_eq.b (E := E0) pass0 hr L.su_Builtin_NoneType L.su_Builtin_int L.su_Builtin_str pins s σ H _ _ v u Q I rx ry ⟨a, dx, _, rfl, ha, (by first | exact .inl hd | exact .inr (.inl ⟨_, hd⟩) | exact .inr (.inr ⟨_, hd⟩)), a, dx, n, _, _, rfl, ha, hd, _, rfl, by simpa [eq_comm] using q⟩
    | _ =>
      subst hee
      cases hd
      cases he
      first
        | (cases hb; done)
        | exact op_eq pins s σ H _ _ v u Q I rx ry ⟨(by rfl), by simpa using q⟩
end
end My
namespace My
open PySem L2 SX XT XS XE
open C8 (pss_cut tCut cutS_slice pe_gc)
def tabF (d : Addr) : List (Str × V) := [("_entries", .ref d)]
structure TblAt (P : Program) (w : World) (A : Ads) (H : Hp) (t : Addr) (d : Addr) (es : List Ent) : Prop where
  ins : ∃ dx, H t = some (.ins A.Table dx (tabF d))
  tab : XT.TabAt P w H d es
  vals : ∀ e ∈ es, ∃ q, e.2.2 = .ref q ∧ ∃ v, H q = some (.tup [e.1, v])
section
variable {P : Program} {w : World} {K : PySem.W.Frag} {mg : Str → Option Value} {base : Heap} {A : Ads}
theorem kit_bool_bool : PySem.W.kitOne K (.type "bool") (.type "bool") = some true := kit_ty (show kitB "bool" "bool" = some true by decide +kernel)
theorem kit_int_bool : PySem.W.kitOne K (.type "int") (.type "bool") = some false := kit_ty (show kitB "int" "bool" = some false by decide +kernel)
theorem kit_str_bool : PySem.W.kitOne K (.type "str") (.type "bool") = some false := kit_ty (show kitB "str" "bool" = some false by decide +kernel)
theorem kit_non_bool : PySem.W.kitOne K (.type "NoneType") (.type "bool") = some false := kit_ty (show kitB "NoneType" "bool" = some false by decide +kernel)
theorem units64 {A : Around} {k : Nat} (hr : Room k A) : A.units + 64 < cLine := hr.units
theorem tab_lk (d : Addr) : (tabF d).lookup ("_entries" : Str) = some (.ref d) := lk_hit
theorem tab_none {d : Addr} {n : Str} (h : (n == ("_entries" : Str)) = false) : (tabF d).lookup n = none := by
  simp [tabF, List.lookup, h]
theorem TblAt.same {H H' : Hp} {t d : Addr} {es : List Ent} (s : Same H H') (h : TblAt P w A H t d es) : TblAt P w A H' t d es := by
  obtain ⟨⟨dx, h1⟩, h2, h3⟩ := h
  refine ⟨⟨dx, s _ _ h1⟩, ⟨s _ _ h2.at_, fun e he => ⟨(h2.keys e he).1, s _ _ (h2.keys e he).2⟩, h2.len⟩, fun e he => ?_⟩
  obtain ⟨q, e1, v, e2⟩ := h3 e he
  exact ⟨q, e1, v, s _ _ e2⟩
def spTagged : Sp := fun vs H Q _ => ∃ k, vs = [k] ∧ keyOk k = true ∧ ∀ p, H p = none → Q (.ref p) (upd H p (.tup [.bl (isB k), k]))
theorem ok_tagged (L : Lib P K mg A) : FnOk P w K mg base CX0 1 L.tagged.f L.tagged.fd ["key"] spTagged := by
  refine L.tagged.F.ok sc_tagged (fun vs H Q E h => ?_) (fun cdv A' outer s H vs Q E hr h => ?_)
  · obtain ⟨k, rfl, _⟩ := h
    rfl
  · obtain ⟨k, rfl, hk, q⟩ := h
    refine ⟨_, (pss_one (ps_ret (pe_tup (pa_cons (pe_callB call_isi (by rfl) L.z_isinstance (by decide +kernel) (pa_cons (pv 0) (pa_cons (pe_bltn (v := .ty "bool") (by rfl) L.z_bool (by decide +kernel) rfl) pa_nil))) (pa_cons (pv 0) pa_nil))))), ?_⟩
    cases k with
    | non => exact ⟨_, rfl, _, .ty "bool", _, _, false, rfl, .ty _, .base .non, kit_non_bool, _, rfl, (by show 2 ≤ sizeLine; decide), fun p np => q p np⟩
    | bl b => exact ⟨_, rfl, _, .ty "bool", _, _, true, rfl, .ty _, .base (.bl b), kit_bool_bool, _, rfl, (by show 2 ≤ sizeLine; decide), fun p np => q p np⟩
    | int i => exact ⟨_, rfl, _, .ty "bool", _, _, false, rfl, .ty _, .base (.int i), kit_int_bool, _, rfl, (by show 2 ≤ sizeLine; decide), fun p np => q p np⟩
    | str x => exact ⟨_, rfl, _, .ty "bool", _, _, false, rfl, .ty _, .base (.str x), kit_str_bool, _, rfl, (by show 2 ≤ sizeLine; decide), fun p np => q p np⟩
    | _ => cases hk
def spTI (P : Program) (w : World) (A : Ads) : Sp := fun vs H Q _ => ∃ t dx, vs = [.ref t] ∧ H t = some (.ins A.Table dx []) ∧ ∀ H' d, Keep t H H' → H d = none → TblAt P w A H' t d [] → Q .non H'
theorem ok_Table_init (L : Lib P K mg A) : FnOk P w K mg base CX0 1 L.Table_init.f L.Table_init.fd ["self"] (spTI P w A) := by
  refine L.Table_init.F.ok sc_Table_init (fun vs H Q E h => ?_) (fun cdv A' outer s H vs Q E hr h => ?_)
  · obtain ⟨t, dx, rfl, _⟩ := h
    rfl
  · obtain ⟨t, dx, rfl, ha, q⟩ := h
    refine ⟨_, (pss_one (ps_fld (pv 0) pe_tnew rfl)), ?_⟩
    refine fun d nd => ⟨_, rfl, t, A.Table, dx, [], rfl, (by rw [upd_ne (ne_of_none ha nd)]; exact ha), L.c_Table.cl, L.n_Table__entries, (by show 0 < 1000; decide), ?_⟩
    have ntd : d ≠ t := fun z => by rw [z, ha] at nd; cases nd
    refine q _ d (fun b o e n => by rw [upd_ne n, upd_ne (ne_of_none e nd)]; exact e) nd ⟨⟨dx, upd_same⟩, ⟨by rw [upd_ne ntd, upd_same]; rfl, (fun e he => nomatch he), Nat.zero_le _⟩, (fun e he => nomatch he)⟩
/-- only new things were made -/
def spTHas (P : Program) (w : World) (A : Ads) : Sp := fun vs H Q _ => ∃ t d es k, vs = [.ref t, k] ∧ TblAt P w A H t d es ∧ keyOk k = true ∧ ∀ H', Same H H' → Q (.bl (valT es k).isSome) H'
theorem ok_Table_has (L : Lib P K mg A) : FnOk P w K mg base CX0 2 L.Table_has.f L.Table_has.fd ["self", "key"] (spTHas P w A) := by
  have G_tagged : FnOk P w K mg base CX0 1 L.tagged.f L.tagged.fd ["key"] spTagged := ok_tagged L
  refine L.Table_has.F.ok sc_Table_has (fun vs H Q E h => ?_) (fun cdv A' outer s H vs Q E hr h => ?_)
  · obtain ⟨t, d, es, k, rfl, _⟩ := h
    rfl
  · obtain ⟨t, d, es, k, rfl, T, hk, q⟩ := h
    refine ⟨_, (pss_one (ps_ret (pe_cmp (pc_tin (units64 hr) (pe_call G_tagged (hr.mono (by omega)) (by rfl) L.tagged.g L.tagged.F.kp L.tagged.b .nil pass0 (pa_cons (pv 1) pa_nil)) (pe_fld (pv 0) rfl))))), ?_⟩
    refine ⟨_, rfl, k, rfl, hk, fun p np => ?_⟩
    have u1 := same_upd (o := .tup [.bl (isB k), k]) np
    obtain ⟨⟨dx, h1⟩, h2, h3⟩ := T.same u1
    exact ⟨_, rfl, t, A.Table, dx, _, _, rfl, h1, L.c_Table.cl, L.n_Table__entries, tab_lk d, d, p, k, es, rfl, rfl, h2, ⟨hk, upd_same⟩, q _ u1⟩
def spTPut (P : Program) (w : World) (A : Ads) : Sp := fun vs H Q _ => ∃ t d es k v, vs = [.ref t, k, v] ∧ TblAt P w A H t d es ∧ keyOk k = true ∧ es.length < 1000000 ∧
  ∀ H' b q, Keep d H H' → TblAt P w A H' t d (putT es k b (.ref q)) → H' q = some (.tup [k, v]) → H q = none → Q .non H'
theorem ok_Table_put (L : Lib P K mg A) : FnOk P w K mg base CX0 2 L.Table_put.f L.Table_put.fd ["self", "key", "value"] (spTPut P w A) := by
  have G_tagged : FnOk P w K mg base CX0 1 L.tagged.f L.tagged.fd ["key"] spTagged := ok_tagged L
  refine L.Table_put.F.ok sc_Table_put (fun vs H Q E h => ?_) (fun cdv A' outer s H vs Q E hr h => ?_)
  · obtain ⟨t, d, es, k, v, rfl, _⟩ := h
    rfl
  · obtain ⟨t, d, es, k, v, rfl, T, hk, hl, kk⟩ := h
    refine ⟨_, (pss_one (ps_tput (units64 hr) (pe_fld (pv 0) rfl) (pe_call G_tagged (hr.mono (by omega)) (by rfl) L.tagged.g L.tagged.F.kp L.tagged.b .nil pass0 (pa_cons (pv 1) pa_nil)) (pe_tup (pa_cons (pv 1) (pa_cons (pv 2) pa_nil))) (by rfl))), ?_⟩
    refine ⟨_, rfl, _, rfl, (by show 2 ≤ sizeLine; decide), fun q nq => ?_⟩
    have u1 := same_upd (o := .tup [k, v]) nq
    obtain ⟨⟨dx, h1⟩, h2, h3⟩ := T.same u1
    refine ⟨_, rfl, t, A.Table, dx, _, _, rfl, h1, L.c_Table.cl, L.n_Table__entries, tab_lk d, _, rfl, k, rfl, hk, fun p np => ?_⟩
    have u2 := same_upd (o := .tup [.bl (isB k), k]) np
    obtain ⟨⟨dx2, g1⟩, g2, g3⟩ := (T.same u1).same u2
    refine ⟨d, p, k, es, rfl, rfl, g2, ⟨hk, upd_same⟩, ?_⟩
    have ntd : t ≠ d := fun z => by rw [z, g2.at_] at g1; cases g1
    have nqd : q ≠ d := fun z => by rw [z] at nq; rw [T.tab.at_] at nq; cases nq
    have hq2 := u2 _ _ (upd_same (H := H) (a := q) (o := .tup [k, v]))
    refine kk _ p q (fun b o e n => by rw [upd_ne n]; exact u2 _ _ (u1 _ _ e)) ⟨⟨dx2, by rw [upd_ne ntd]; exact g1⟩, g2.put ⟨hk, upd_same⟩ hl, fun e he => ?_⟩ (by rw [upd_ne nqd]; exact hq2) nq
    have old : ∀ e ∈ es, ∃ q', e.2.2 = .ref q' ∧ ∃ v', (upd (upd (upd H q (.tup [k, v])) p (.tup [.bl (isB k), k])) d (TabO P w d (putT es k p (.ref q)))) q' = some (.tup [e.1, v']) := fun e he => by
      obtain ⟨q', e1, v', e2⟩ := g3 e he
      exact ⟨q', e1, v', by rw [upd_ne (fun z => by rw [z, g2.at_] at e2; cases e2)]; exact e2⟩
    unfold putT at he
    split at he
    · obtain ⟨e0, h0, ee⟩ := List.mem_map.mp he
      split at ee
      · rename_i hk0
        subst ee
        exact ⟨q, rfl, v, by rw [upd_ne nqd, hk0]; exact hq2⟩
      · subst ee
        exact old e0 h0
    · rcases List.mem_append.mp he with he | he
      · exact old e he
      · rw [List.mem_singleton] at he
        subst he
        exact ⟨q, rfl, v, by rw [upd_ne nqd]; exact hq2⟩
def spTPairs (P : Program) (w : World) (A : Ads) : Sp := fun vs H Q _ => ∃ t d es, vs = [.ref t] ∧ TblAt P w A H t d es ∧ ∀ H' l, Same H H' → H l = none → H' l = some (.lst (es.map (·.2.2))) → Q (.ref l) H'
theorem ok_Table_pairs (L : Lib P K mg A) : FnOk P w K mg base CX0 1 L.Table_pairs.f L.Table_pairs.fd ["self"] (spTPairs P w A) := by
  refine L.Table_pairs.F.ok sc_Table_pairs (fun vs H Q E h => ?_) (fun cdv A' outer s H vs Q E hr h => ?_)
  · obtain ⟨t, d, es, rfl, _⟩ := h
    rfl
  · obtain ⟨t, d, es, rfl, T, kk⟩ := h
    refine ⟨_, (pss_one (ps_ret (pe_callTy (call_list_vals rfl) (by rfl) L.z_list (by decide +kernel) (pa_cons (pe_tvals (pe_fld (pv 0) rfl)) pa_nil)))), ?_⟩
    obtain ⟨⟨dx, h1⟩, h2, h3⟩ := id T
    refine ⟨_, rfl, t, A.Table, dx, _, _, rfl, h1, L.c_Table.cl, L.n_Table__entries, tab_lk d, d, es, rfl, h2, fun v nv => ?_⟩
    have u1 := same_upd (o := ViewO d v) nv
    refine ⟨v, d, es, rfl, upd_same, (T.same u1).tab, fun l nl => ?_⟩
    have u2 := same_upd (o := .lst (es.map (·.2.2))) nl
    refine kk _ l (u1.trans u2) ?_ upd_same
    cases e : H l with
    | none => rfl
    | some o =>
      rw [u1 _ _ e] at nl
      cases nl
def spTMany (P : Program) (w : World) (A : Ads) : Sp := fun vs H Q _ => ∃ t d es, vs = [.ref t] ∧ TblAt P w A H t d es ∧ Q (.int (es.length : Nat)) H
theorem ok_Table_many (L : Lib P K mg A) : FnOk P w K mg base CX0 1 L.Table_many.f L.Table_many.fd ["self"] (spTMany P w A) := by
  refine L.Table_many.F.ok sc_Table_many (fun vs H Q E h => ?_) (fun cdv A' outer s H vs Q E hr h => ?_)
  · obtain ⟨t, d, es, rfl, _⟩ := h
    rfl
  · obtain ⟨t, d, es, rfl, T, kk⟩ := h
    refine ⟨_, (pss_one (ps_ret (pe_callB call_len_tab (by rfl) L.z_len PySem.boot_len (pa_cons (pe_fld (pv 0) rfl) pa_nil)))), ?_⟩
    obtain ⟨⟨dx, h1⟩, h2, h3⟩ := id T
    exact ⟨_, rfl, t, A.Table, dx, _, _, rfl, h1, L.c_Table.cl, L.n_Table__entries, tab_lk d, d, es, rfl, h2, kk⟩
end
end My
namespace My
open PySem L2 SX XT XS XE
open C8 (pss_cut tCut cutS_slice pe_gc)
/-! ### things -/
def toV : Dv → V
  | .non => .non
  | .bl b => .bl b
  | .int i => .int i
  | .str x => .str x
  | _ => .non
def keyD : Dv → Bool
  | .obj _ => false
  | .bi _ => false
  | _ => true
theorem has_key {A : Ads} {H : Hp} {v : V} {d : Dv} (h : Has A H v d) (k : keyD d = true) : v = toV d ∧ keyOk v = true := by
  cases d with
  | obj n => cases k
  | bi x => cases k
  | _ => cases h; exact ⟨rfl, rfl⟩
theorem key_has {A : Ads} {H : Hp} {d : Dv} (k : keyD d = true) : Has A H (toV d) d := by
  cases d with
  | obj n => cases k
  | bi x => cases k
  | _ => rfl
theorem key_ok {d : Dv} (k : keyD d = true) : keyOk (toV d) = true := by
  cases d with
  | obj n => cases k
  | bi x => cases k
  | _ => rfl
theorem toV_inj {d e : Dv} (hd : keyD d = true) (he : keyD e = true) (h : toV d = toV e) : d = e := by
  cases d <;> cases e <;> first | rfl | (cases hd; done) | (cases he; done) | (cases h; rfl) | (cases h; done)
def Ents (A : Ads) (H : Hp) : List Ent → List (Dv × Dv) → Prop
  | [], [] => True
  | e :: es, p :: ps => (keyD p.1 = true ∧ e.1 = toV p.1 ∧ ∃ q v, e.2.2 = .ref q ∧ H q = some (.tup [e.1, v]) ∧ Has A H v p.2) ∧ Ents A H es ps
  | _, _ => False
inductive Th where
  | parts (ds : List Dv)
  | table (es : List (Dv × Dv))
  | inst (o : Dv) (ns : List (Str × Dv))
  | kin (nm : Str) (par : Dv) (ms : List (Str × Dv))
  | clo
def Nmd (A : Ads) (H : Hp) : List (Key × V) → List (Str × Dv) → Prop
  | [], [] => True
  | e :: es, p :: ps => (e.1 = .inr p.1 ∧ Has A H e.2 p.2) ∧ Nmd A H es ps
  | _, _ => False
def kinF (nm : Str) (v : V) (m : Addr) : List (Str × V) := [("name", .str nm), ("parent", v), ("methods", .ref m)]
def insF (v : V) (m : Addr) : List (Str × V) := [("owner", v), ("named", .ref m)]
def ThAt (P : Program) (w : World) (A : Ads) (H : Hp) (x m : Addr) : Th → Prop
  | .parts ds => ∃ dx vs, H x = some (.ins A.Parts dx [("held", .ref m)]) ∧ H m = some (.lst vs) ∧ Hs A H vs ds
  | .table es => ∃ ents, TblAt P w A H x m ents ∧ Ents A H ents es ∧ (es.map Prod.fst).Nodup ∧ es.length ≤ 1000
  | .inst o ns => ∃ dx v kvs, H x = some (.ins A.Instance dx (insF v m)) ∧ Has A H v o ∧ H m = some (.dK kvs) ∧ Nmd A H kvs ns
  | .kin nm par ms => ∃ dx v kvs, H x = some (.ins A.Kin dx (kinF nm v m)) ∧ Has A H v par ∧ H m = some (.dK kvs) ∧ Nmd A H kvs ms
  | .clo => ∃ fs, H x = some (.ins A.Closure m fs) ∧ H m = some (.own x)
theorem Ents.imp {A : Ads} {H H' : Hp} (s : ∀ v d, Has A H v d → Has A H' v d) (t : ∀ q xs, H q = some (.tup xs) → H' q = some (.tup xs)) : ∀ {es : List Ent} {ps : List (Dv × Dv)}, Ents A H es ps → Ents A H' es ps
  | [], [], _ => trivial
  | _ :: _, _ :: _, ⟨⟨k, e, q, v, h1, h2, h3⟩, r⟩ => ⟨⟨k, e, q, v, h1, t _ _ h2, s _ _ h3⟩, Ents.imp s t r⟩
  | [], _ :: _, h => h.elim
  | _ :: _, [], h => h.elim
theorem Nmd.imp {A : Ads} {H H' : Hp} (s : ∀ v d, Has A H v d → Has A H' v d) : ∀ {es : List (Key × V)} {ps : List (Str × Dv)}, Nmd A H es ps → Nmd A H' es ps
  | [], [], _ => trivial
  | _ :: _, _ :: _, h => ⟨⟨h.1.1, s _ _ h.1.2⟩, Nmd.imp s h.2⟩
  | [], _ :: _, h => h.elim
  | _ :: _, [], h => h.elim
/-- values and tuples stay -/
structure Vk (A : Ads) (H H' : Hp) : Prop where
  v : ∀ v d, Has A H v d → Has A H' v d
  t : ∀ q xs, H q = some (.tup xs) → H' q = some (.tup xs)
theorem Sv.vk {A : Ads} {H H' : Hp} (s : Sv H H') : Vk A H H' := ⟨fun _ _ h => h.sv s, fun q xs e => s _ _ e fun _ z => by cases z⟩
theorem Vk.trans {A : Ads} {H H1 H2 : Hp} (a : Vk A H H1) (b : Vk A H1 H2) : Vk A H H2 := ⟨fun v d h => b.v v d (a.v v d h), fun q xs h => b.t q xs (a.t q xs h)⟩
theorem Vk.rfl' {A : Ads} {H : Hp} : Vk A H H := ⟨fun _ _ h => h, fun _ _ h => h⟩
section
variable {P : Program} {w : World} {K : PySem.W.Frag} {mg : Str → Option Value} {base : Heap} {A : Ads}
theorem ThAt.imp {H H' : Hp} (k : Vk A H H') {x m : Addr} {th : Th} (hx : ∀ u, H x = some u → H' x = some u) (hm : ∀ u, H m = some u → H' m = some u) (h : ThAt P w A H x m th) : ThAt P w A H' x m th := by
  cases th with
  | parts ds =>
    obtain ⟨dx, vs, h1, h2, h3⟩ := h
    exact ⟨dx, vs, hx _ h1, hm _ h2, h3.imp k.v⟩
  | table es =>
    obtain ⟨ents, ⟨⟨dx, h1⟩, h2, h3⟩, h4, h5⟩ := h
    refine ⟨ents, ⟨⟨dx, hx _ h1⟩, ⟨hm _ h2.at_, fun e he => ⟨(h2.keys e he).1, k.t _ _ (h2.keys e he).2⟩, h2.len⟩, fun e he => ?_⟩, h4.imp k.v k.t, h5⟩
    obtain ⟨q, e1, v, e2⟩ := h3 e he
    exact ⟨q, e1, v, k.t _ _ e2⟩
  | inst o ns =>
    obtain ⟨dx, v, kvs, h1, h2, h3, h4⟩ := h
    exact ⟨dx, v, kvs, hx _ h1, k.v _ _ h2, hm _ h3, h4.imp k.v⟩
  | kin nm par ms =>
    obtain ⟨dx, v, kvs, h1, h2, h3, h4⟩ := h
    exact ⟨dx, v, kvs, hx _ h1, k.v _ _ h2, hm _ h3, h4.imp k.v⟩
  | clo =>
    obtain ⟨fs, h1, h2⟩ := h
    exact ⟨fs, hx _ h1, hm _ h2⟩
def clsT (A : Ads) : Th → Addr
  | .parts _ => A.Parts
  | .table _ => A.Table
  | .inst _ _ => A.Instance
  | .kin _ _ _ => A.Kin
  | .clo => A.Closure
theorem ThAt.x {H : Hp} {x m : Addr} {th : Th} (h : ThAt P w A H x m th) : ∃ dx fs, H x = some (.ins (clsT A th) dx fs) := by
  cases th with
  | parts ds => obtain ⟨dx, vs, h1, _⟩ := h; exact ⟨_, _, h1⟩
  | table es => obtain ⟨ents, ⟨⟨dx, h1⟩, _, _⟩, _⟩ := h; exact ⟨_, _, h1⟩
  | inst o ns => obtain ⟨dx, v, kvs, h1, _⟩ := h; exact ⟨_, _, h1⟩
  | kin nm par ms => obtain ⟨dx, v, kvs, h1, _⟩ := h; exact ⟨_, _, h1⟩
  | clo => obtain ⟨fs, h1, _⟩ := h; exact ⟨_, _, h1⟩
theorem ThAt.m {H : Hp} {x m : Addr} {th : Th} (h : ThAt P w A H x m th) : ∃ u, H m = some u ∧ (∀ C dx fs, u ≠ .ins C dx fs) ∧ ∀ xs, u ≠ .tup xs := by
  cases th with
  | parts ds => obtain ⟨dx, vs, _, h1, _⟩ := h; exact ⟨_, h1, nofun, nofun⟩
  | table es => obtain ⟨ents, ⟨_, h2, _⟩, _⟩ := h; exact ⟨_, h2.at_, nofun, nofun⟩
  | inst o ns => obtain ⟨dx, v, kvs, _, _, h1, _⟩ := h; exact ⟨_, h1, nofun, nofun⟩
  | kin nm par ms => obtain ⟨dx, v, kvs, _, _, h1, _⟩ := h; exact ⟨_, h1, nofun, nofun⟩
  | clo => obtain ⟨fs, _, h1⟩ := h; exact ⟨_, h1, nofun, nofun⟩
theorem clsT_ne (L : Lib P K mg A) (th : Th) : clsT A th ≠ A.Ref ∧ clsT A th ≠ A.Builtin := by
  cases th with
  | parts ds => exact ⟨ne_cls L.k_Parts_Ref, ne_cls L.k_Parts_Builtin⟩
  | table es => exact ⟨ne_cls L.k_Table_Ref, ne_cls L.k_Table_Builtin⟩
  | inst o ns => exact ⟨ne_cls L.k_Instance_Ref, ne_cls L.k_Instance_Builtin⟩
  | kin nm par ms => exact ⟨ne_cls L.k_Kin_Ref, ne_cls L.k_Kin_Builtin⟩
  | clo => exact ⟨ne_cls L.k_Closure_Ref, ne_cls L.k_Closure_Builtin⟩
/-! ### the store -/
structure St where
  things : List Th
  out : List Str
  lines : List Str
  taken : Nat
def stF (t o l : Addr) (n : Nat) : List (Str × V) := [("things", .ref t), ("output", .ref o), ("lines", .ref l), ("taken", .int (n : Nat))]
theorem st_things (t o l : Addr) (n : Nat) : (stF t o l n).lookup ("things" : Str) = some (.ref t) := lk_hit
theorem st_output (t o l : Addr) (n : Nat) : (stF t o l n).lookup ("output" : Str) = some (.ref o) := by
  unfold stF
  rw [lk_skip (by decide +kernel)]
  exact lk_hit
theorem st_lines (t o l : Addr) (n : Nat) : (stF t o l n).lookup ("lines" : Str) = some (.ref l) := by
  unfold stF
  rw [lk_skip (by decide +kernel), lk_skip (by decide +kernel)]
  exact lk_hit
theorem st_taken (t o l : Addr) (n : Nat) : (stF t o l n).lookup ("taken" : Str) = some (.int (n : Nat)) := by
  unfold stF
  rw [lk_skip (by decide +kernel), lk_skip (by decide +kernel), lk_skip (by decide +kernel)]
  exact lk_hit
theorem st_no {n : Str} (t o l : Addr) (k : Nat) (h1 : (n == ("things" : Str)) = false) (h2 : (n == ("output" : Str)) = false) (h3 : (n == ("lines" : Str)) = false) (h4 : (n == ("taken" : Str)) = false) : (stF t o l k).lookup n = none := by
  unfold stF
  rw [lk_skip h1, lk_skip h2, lk_skip h3, lk_skip h4]
  rfl
/-- the addresses of a store -/
structure Sa where
  s : Addr
  t : Addr
  o : Addr
  l : Addr
  X : List Addr
  M : List Addr
def Sa.own (a : Sa) (b : Addr) : Prop := b = a.s ∨ b = a.t ∨ b = a.o ∨ b = a.l ∨ b ∈ a.X ∨ b ∈ a.M
structure SM (P : Program) (w : World) (A : Ads) (H : Hp) (a : Sa) (S : St) : Prop where
  s_ : ∃ dx, H a.s = some (.ins A.Store dx (stF a.t a.o a.l S.taken))
  t_ : H a.t = some (.lst (a.X.map V.ref))
  o_ : H a.o = some (.lst (S.out.map V.str))
  l_ : H a.l = some (.lst (S.lines.map V.str))
  lx : a.X.length = S.things.length
  lm : a.M.length = S.things.length
  th : ∀ (i : Nat) x m d, a.X[i]? = some x → a.M[i]? = some m → S.things[i]? = some d → ThAt P w A H x m d
  nd : (a.t :: a.o :: a.l :: a.M).Nodup
  nx : a.X.Nodup
theorem SM.get {H : Hp} {a : Sa} {S : St} (h : SM P w A H a S) {i : Nat} {d : Th} (e : S.things[i]? = some d) : ∃ x m, a.X[i]? = some x ∧ a.M[i]? = some m ∧ ThAt P w A H x m d := by
  have hi := (List.getElem?_eq_some_iff.mp e).1
  have h1 : i < a.X.length := by rw [h.lx]; exact hi
  have h2 : i < a.M.length := by rw [h.lm]; exact hi
  exact ⟨a.X[i], a.M[i], List.getElem?_eq_getElem h1, List.getElem?_eq_getElem h2, h.th i _ _ d (List.getElem?_eq_getElem h1) (List.getElem?_eq_getElem h2) e⟩
theorem SM.xs {H : Hp} {a : Sa} {S : St} (h : SM P w A H a S) {x : Addr} (e : x ∈ a.X) : ∃ th m, ThAt P w A H x m th := by
  obtain ⟨i, hi, e⟩ := List.getElem_of_mem e
  have h1 : i < S.things.length := by rw [← h.lx]; exact hi
  obtain ⟨x', m, e1, e2, t⟩ := h.get (List.getElem?_eq_getElem h1)
  rw [List.getElem?_eq_getElem hi] at e1
  cases e1
  rw [e] at t
  exact ⟨_, m, t⟩
theorem SM.ms {H : Hp} {a : Sa} {S : St} (h : SM P w A H a S) {m : Addr} (e : m ∈ a.M) : ∃ th x, ThAt P w A H x m th := by
  obtain ⟨i, hi, e⟩ := List.getElem_of_mem e
  have h1 : i < S.things.length := by rw [← h.lm]; exact hi
  obtain ⟨x, m', e1, e2, t⟩ := h.get (List.getElem?_eq_getElem h1)
  rw [List.getElem?_eq_getElem hi] at e2
  cases e2
  rw [e] at t
  exact ⟨_, x, t⟩
/-- no value is the store's own -/
theorem SM.nv {H : Hp} {a : Sa} {S : St} (L : Lib P K mg A) (h : SM P w A H a S) {b : Addr} (hb : a.own b) : ∃ u, H b = some u ∧ (∀ dx fs, u ≠ .ins A.Ref dx fs) ∧ (∀ dx fs, u ≠ .ins A.Builtin dx fs) ∧ ∀ xs, u ≠ .tup xs := by
  rcases hb with rfl | rfl | rfl | rfl | hb | hb
  · obtain ⟨dx, e⟩ := h.s_
    refine ⟨_, e, fun _ _ z => ?_, fun _ _ z => ?_, nofun⟩
    · injection z with z; exact ne_cls L.k_Store_Ref z
    · injection z with z; exact ne_cls L.k_Store_Builtin z
  · exact ⟨_, h.t_, nofun, nofun, nofun⟩
  · exact ⟨_, h.o_, nofun, nofun, nofun⟩
  · exact ⟨_, h.l_, nofun, nofun, nofun⟩
  · obtain ⟨th, m, t⟩ := h.xs hb
    obtain ⟨dx, fs, e⟩ := t.x
    refine ⟨_, e, fun _ _ z => ?_, fun _ _ z => ?_, nofun⟩
    · injection z with z; exact (clsT_ne L th).1 z
    · injection z with z; exact (clsT_ne L th).2 z
  · obtain ⟨th, x, t⟩ := h.ms hb
    obtain ⟨u, e, h1, h2⟩ := t.m
    exact ⟨u, e, fun _ _ => h1 _ _ _, fun _ _ => h1 _ _ _, h2⟩
/-- what is not the store's own stays -/
def Fr (a : Sa) (H H' : Hp) : Prop := ∀ b u, H b = some u → ¬ a.own b → H' b = some u
theorem Fr.vk {H H' : Hp} {a : Sa} {S : St} (L : Lib P K mg A) (h : SM P w A H a S) (f : Fr a H H') : Vk A H H' := by
  have no : ∀ b, (∃ dx fs, H b = some (.ins A.Ref dx fs)) ∨ (∃ dx fs, H b = some (.ins A.Builtin dx fs)) ∨ (∃ xs, H b = some (.tup xs)) → ¬ a.own b := fun b e ho => by
    obtain ⟨u, e1, n1, n2, n3⟩ := h.nv L ho
    rcases e with ⟨dx, fs, e⟩ | ⟨dx, fs, e⟩ | ⟨xs, e⟩
    · exact n1 _ _ (Option.some.inj (e1.symm.trans e))
    · exact n2 _ _ (Option.some.inj (e1.symm.trans e))
    · exact n3 _ (Option.some.inj (e1.symm.trans e))
  refine ⟨fun v d hv => ?_, fun q xs e => f _ _ e (no _ (.inr (.inr ⟨_, e⟩)))⟩
  cases d with
  | obj n =>
    obtain ⟨b, dx, rfl, e⟩ := hv
    exact ⟨b, dx, rfl, f _ _ e (no _ (.inl ⟨_, _, e⟩))⟩
  | bi x =>
    obtain ⟨b, dx, rfl, e⟩ := hv
    exact ⟨b, dx, rfl, f _ _ e (no _ (.inr (.inl ⟨_, _, e⟩)))⟩
  | _ => exact hv
theorem SM.imp {H H' : Hp} {a : Sa} {S : St} (h : SM P w A H a S) (k : Vk A H H') (ho : ∀ b u, a.own b → H b = some u → H' b = some u) : SM P w A H' a S := by
  obtain ⟨dx, e⟩ := h.s_
  exact ⟨⟨dx, ho _ _ (.inl rfl) e⟩, ho _ _ (.inr (.inl rfl)) h.t_, ho _ _ (.inr (.inr (.inl rfl))) h.o_, ho _ _ (.inr (.inr (.inr (.inl rfl)))) h.l_, h.lx, h.lm,
    fun i x m d e1 e2 e3 => (h.th i x m d e1 e2 e3).imp k (fun u => ho _ u (.inr (.inr (.inr (.inr (.inl (List.mem_of_getElem? e1))))))) (fun u => ho _ u (.inr (.inr (.inr (.inr (.inr (List.mem_of_getElem? e2))))))), h.nd, h.nx⟩
theorem SM.same {H H' : Hp} {a : Sa} {S : St} (h : SM P w A H a S) (s : Same H H') : SM P w A H' a S := h.imp (Same.sv s).vk fun b u _ e => s b u e
theorem SM.keep {H H' : Hp} {a : Sa} {S : St} {p : Addr} {xs : List V} (h : SM P w A H a S) (k : Keep p H H') (hp : H p = some (.lst xs)) (np : ¬ a.own p) : SM P w A H' a S := h.imp (Keep.sv k hp).vk fun b u ho e => k b u e fun z => np (z ▸ ho)
theorem nodup_get {α : Type} : ∀ {l : List α} {i j : Nat} {x : α}, l.Nodup → l[i]? = some x → l[j]? = some x → i = j
  | [], _, _, _, _, h, _ => by simp at h
  | a :: l, 0, 0, _, _, _, _ => rfl
  | a :: l, 0, j + 1, x, n, h, g => by
    simp at h g
    subst h
    exact absurd (List.mem_of_getElem? g) (List.nodup_cons.mp n).1
  | a :: l, i + 1, 0, x, n, h, g => by
    simp at h g
    subst g
    exact absurd (List.mem_of_getElem? h) (List.nodup_cons.mp n).1
  | a :: l, i + 1, j + 1, x, n, h, g => by
    simp at h g
    rw [nodup_get (List.nodup_cons.mp n).2 h g]
/-- the part m of a thing is written -/
theorem SM.setM {H : Hp} {a : Sa} {S : St} {i : Nat} {x m : Addr} {u : HO} {d : Th} (h : SM P w A H a S) (hX : a.X[i]? = some x) (hM : a.M[i]? = some m) (k : Vk A H (upd H m u)) (hd : ThAt P w A (upd H m u) x m d) :
    SM P w A (upd H m u) a { S with things := S.things.set i d } := by
  have mm := List.mem_of_getElem? hM
  have hm3 : m ≠ a.t ∧ m ≠ a.o ∧ m ≠ a.l := by
    have := h.nd
    simp only [List.nodup_cons, List.mem_cons, not_or] at this
    exact ⟨fun z => this.1.2.2 (z ▸ mm), fun z => this.2.1.2 (z ▸ mm), fun z => this.2.2.1 (z ▸ mm)⟩
  have hMn : a.M.Nodup := by
    have := h.nd
    simp only [List.nodup_cons] at this
    exact this.2.2.2
  obtain ⟨tm, xm, hmt⟩ := h.ms mm
  obtain ⟨um, hum, hni, _⟩ := hmt.m
  have nins : ∀ {b : Addr} {C dx : Addr} {fs : List (Str × V)}, H b = some (.ins C dx fs) → b ≠ m := fun e z => by
    rw [z, hum] at e
    exact hni _ _ _ (Option.some.inj e)
  obtain ⟨dx, e⟩ := h.s_
  refine ⟨⟨dx, by rw [upd_ne (nins e)]; exact e⟩, by rw [upd_ne hm3.1.symm]; exact h.t_, by rw [upd_ne hm3.2.1.symm]; exact h.o_, by rw [upd_ne hm3.2.2.symm]; exact h.l_, by rw [List.length_set]; exact h.lx, by rw [List.length_set]; exact h.lm, ?_, h.nd, h.nx⟩
  intro j x' m' d' e1 e2 e3
  by_cases hij : i = j
  · subst hij
    rw [hX] at e1
    rw [hM] at e2
    cases e1
    cases e2
    rw [List.getElem?_set] at e3
    split at e3
    · split at e3
      · cases e3; exact hd
      · cases e3
    · rename_i z; exact absurd rfl z
  · rw [List.getElem?_set_ne hij] at e3
    have t := h.th j x' m' d' e1 e2 e3
    refine t.imp k (fun u' e => ?_) (fun u' e => ?_)
    · obtain ⟨dx', fs', ex⟩ := t.x
      rw [upd_ne (nins ex)]
      exact e
    · have hne : m' ≠ m := fun z => by
        rw [z] at e2
        exact hij (nodup_get hMn hM e2)
      rw [upd_ne hne]
      exact e
/-- a thing more -/
theorem SM.push {H : Hp} {a : Sa} {S : St} {x m : Addr} {d : Th} (h : SM P w A H a S) (hd : ThAt P w A H x m d) (nx : x ∉ a.X) (nm : m ∉ a.t :: a.o :: a.l :: a.M) :
    SM P w A (upd H a.t (.lst ((a.X ++ [x]).map V.ref))) { a with X := a.X ++ [x], M := a.M ++ [m] } { S with things := S.things ++ [d] } := by
  have sv : Sv H (upd H a.t (.lst ((a.X ++ [x]).map V.ref))) := fun b u e n => by
    rw [upd_ne fun z => by rw [z, h.t_] at e; exact n _ (Option.some.inj e).symm]
    exact e
  have n3 := h.nd
  simp only [List.nodup_cons, List.mem_cons, not_or] at n3
  simp only [List.mem_cons, not_or] at nm
  have hnt : ∀ {b : Addr} {C dx : Addr} {fs : List (Str × V)}, H b = some (.ins C dx fs) → b ≠ a.t := fun e z => by
    rw [z, h.t_] at e
    cases e
  obtain ⟨dx, e⟩ := h.s_
  refine ⟨⟨dx, by rw [upd_ne (hnt e)]; exact e⟩, upd_same, by rw [upd_ne (fun z => n3.1.1 z.symm)]; exact h.o_, by rw [upd_ne (fun z => n3.1.2.1 z.symm)]; exact h.l_, by simp [h.lx], by simp [h.lm], ?_, ?_, ?_⟩
  · intro i x' m' d' e1 e2 e3
    have up : ∀ {x m : Addr} {d : Th}, ThAt P w A H x m d → m ≠ a.t → ThAt P w A (upd H a.t (.lst ((a.X ++ [x]).map V.ref))) x m d → True := fun _ _ _ => trivial
    have go : ∀ {y n : Addr} {g : Th}, ThAt P w A H y n g → n ≠ a.t → ThAt P w A (upd H a.t (.lst ((a.X ++ [x]).map V.ref))) y n g := fun {y n g} t hn => by
      obtain ⟨dy, fs, ey⟩ := t.x
      exact t.imp sv.vk (fun u e => by rw [upd_ne (hnt ey)]; exact e) (fun u e => by rw [upd_ne hn]; exact e)
    by_cases hi : i < S.things.length
    · have e1' : a.X[i]? = some x' := by
        have e1 : (a.X ++ [x])[i]? = some x' := e1
        rw [List.getElem?_append_left (by rw [h.lx]; exact hi)] at e1
        exact e1
      have e2' : a.M[i]? = some m' := by
        have e2 : (a.M ++ [m])[i]? = some m' := e2
        rw [List.getElem?_append_left (by rw [h.lm]; exact hi)] at e2
        exact e2
      have e3' : S.things[i]? = some d' := by
        have e3 : (S.things ++ [d])[i]? = some d' := e3
        rw [List.getElem?_append_left hi] at e3
        exact e3
      exact go (h.th i x' m' d' e1' e2' e3') fun z => n3.1.2.2 (z ▸ List.mem_of_getElem? e2')
    · have hl := (List.getElem?_eq_some_iff.mp e3).1
      rw [List.length_append, List.length_singleton] at hl
      have hi' : i = S.things.length := by omega
      subst hi'
      have e1 : (a.X ++ [x])[S.things.length]? = some x' := e1
      have e2 : (a.M ++ [m])[S.things.length]? = some m' := e2
      have e3 : (S.things ++ [d])[S.things.length]? = some d' := e3
      rw [← h.lx, List.getElem?_append_right (Nat.le_refl _), Nat.sub_self] at e1
      rw [← h.lm, List.getElem?_append_right (Nat.le_refl _), Nat.sub_self] at e2
      rw [List.getElem?_append_right (Nat.le_refl _), Nat.sub_self] at e3
      cases e1
      cases e2
      cases e3
      exact go hd nm.1
  · have : (a.t :: a.o :: a.l :: a.M ++ [m]).Nodup := by
      rw [List.nodup_append]
      refine ⟨h.nd, by simp, fun y hy z hz => ?_⟩
      rw [List.mem_singleton] at hz
      subst hz
      intro q
      subst q
      simp only [List.mem_cons] at hy
      rcases hy with q | q | q | q
      · exact nm.1 q
      · exact nm.2.1 q
      · exact nm.2.2.1 q
      · exact nm.2.2.2 q
    exact this
  · show (a.X ++ [x]).Nodup
    rw [List.nodup_append]
    refine ⟨h.nx, by simp, fun y hy z hz => ?_⟩
    rw [List.mem_singleton] at hz
    subst hz
    exact fun q => nx (q ▸ hy)
end
end My
namespace My
open PySem L2 SX XT XS XE
open C8 (pss_cut tCut cutS_slice pe_gc)
section
variable {P : Program} {w : World} {K : PySem.W.Frag} {mg : Str → Option Value} {base : Heap} {A : Ads}
/-! ### the classes' __init__ -/
def spHI (C : Addr) (n : Str) (K : PySem.W.Frag) : Sp := fun vs H Q _ => ∃ x dx l xs, vs = [.ref x, .ref l] ∧ H x = some (.ins C dx []) ∧ SqL K H l xs ∧ ∀ H' m, Keep x H H' → H' x = some (.ins C dx [(n, .ref m)]) → H m = none → H' m = some (.lst xs) → Q .non H'
theorem ok_Parts_init (L : Lib P K mg A) : FnOk P w K mg base CX0 1 L.Parts_init.f L.Parts_init.fd ["self", "held"] (spHI A.Parts "held" K) := by
  refine L.Parts_init.F.ok sc_Parts_init (fun vs H Q E h => ?_) (fun cdv A' outer s H vs Q E hr h => ?_)
  · obtain ⟨x, dx, l, xs, rfl, _⟩ := h
    rfl
  · obtain ⟨x, dx, l, xs, rfl, hx, hl, q⟩ := h
    refine ⟨_, (pss_one (ps_fld (pv 0) (pe_callTy call_list_of (by rfl) L.z_list (by decide +kernel) (pa_cons (pv 1) pa_nil)) rfl)), ?_⟩
    refine ⟨_, rfl, l, xs, rfl, .inl hl, fun m hm => ⟨_, rfl, x, A.Parts, dx, [], rfl, (by rw [upd_ne (ne_of_none hx hm)]; exact hx), L.c_Parts.cl, L.n_Parts_held, (by show 0 < 1000; decide), ?_⟩⟩
    have nmx : m ≠ x := (ne_of_none hx hm).symm
    exact q _ m (fun b o e n => by rw [upd_ne n, upd_ne (ne_of_none e hm)]; exact e) upd_same hm (by rw [upd_ne nmx]; exact upd_same)
def spKI (A : Ads) : Sp := fun vs H Q _ => ∃ x dx v1 v2, vs = [.ref x, v1, v2] ∧ H x = some (.ins A.Kin dx []) ∧ ∀ H' m, Keep x H H' → H' x = some (.ins A.Kin dx [("name", v1), ("parent", v2), ("methods", .ref m)]) → H m = none → H' m = some (.dK []) → Q .non H'
theorem ok_Kin_init (L : Lib P K mg A) : FnOk P w K mg base CX0 1 L.Kin_init.f L.Kin_init.fd ["self", "name", "parent"] (spKI A) := by
  refine L.Kin_init.F.ok sc_Kin_init (fun vs H Q E h => ?_) (fun cdv A' outer s H vs Q E hr h => ?_)
  · obtain ⟨x, dx, v1, v2, rfl, _⟩ := h
    rfl
  · obtain ⟨x, dx, v1, v2, rfl, hx, q⟩ := h
    refine ⟨_, (pss_cons (ps_fld (pv 0) (pv 1) rfl)
      (pss_cons (ps_fld (pv 0) (pv 2) rfl)
      (pss_one (ps_fld (pv 0) pe_dnewK rfl)))), ?_⟩
    refine ⟨_, rfl, _, rfl, x, A.Kin, dx, _, rfl, hx, L.c_Kin.cl, L.n_Kin_name, (by show 0 < 1000; decide), ?_⟩
    refine ⟨_, rfl, _, rfl, x, A.Kin, dx, _, rfl, upd_same, L.c_Kin.cl, L.n_Kin_parent, (by show 1 < 1000; decide), ?_⟩
    refine fun m hm => ?_
    have nmx : x ≠ m := ne_of_none upd_same hm
    refine ⟨_, rfl, x, A.Kin, dx, _, rfl, (by rw [upd_ne nmx]; exact upd_same), L.c_Kin.cl, L.n_Kin_methods, (by show 2 < 1000; decide), ?_⟩
    refine q _ m (fun b o e n => by rw [upd_ne n, upd_ne (ne_of_none (H := upd (upd H x _) x _) (by rw [upd_ne n, upd_ne n]; exact e) hm), upd_ne n, upd_ne n]; exact e) upd_same ?_ (by rw [upd_ne nmx.symm]; exact upd_same)
    rw [upd_ne nmx.symm, upd_ne nmx.symm] at hm
    exact hm
/-- a new part is made and a field of the object at a is set -/
structure Two (H H2 : Hp) (t a : Addr) (U I : HO) : Prop where
  kk : ∀ b u, H b = some u → b ≠ a → H2 b = some u
  tt : H2 t = some U
  aa : H2 a = some I
  nn : ∀ b, H2 b = none → H b = none
  na : t ≠ a
  nt : H t = none
theorem two {H : Hp} {t a : Addr} {U I I0 : HO} (nt : H t = none) (ha : H a = some I0) : Two H (upd (upd H t U) a I) t a U I := by
  have nta : t ≠ a := (ne_of_none ha nt).symm
  refine ⟨fun b u e n => by rw [upd_ne n, upd_ne (ne_of_none e nt)]; exact e, by rw [upd_ne nta]; exact upd_same, upd_same, fun b e => ?_, nta, nt⟩
  by_cases h1 : b = a
  · rw [h1, upd_same] at e; cases e
  · rw [upd_ne h1] at e
    by_cases h2 : b = t
    · rw [h2, upd_same] at e; cases e
    · rw [upd_ne h2] at e; exact e
def stO (ls : List Str) : St := ⟨[.kin "Error" .non []], [], ls, 0⟩
def spSI (P : Program) (w : World) (K : PySem.W.Frag) (A : Ads) : Sp := fun vs H Q _ => ∃ a dx l ls, vs = [.ref a, .ref l] ∧ H a = some (.ins A.Store dx []) ∧ SqL K H l (ls.map V.str) ∧ l ≠ a ∧ ∀ H' (sa : Sa), sa.s = a → Keep a H H' → SM P w A H' sa (stO ls) → (∀ b, sa.own b → b = a ∨ H b = none) → Q .non H'
theorem ok_Store_init (L : Lib P K mg A) : FnOk P w K mg base CX0 3 L.Store_init.f L.Store_init.fd ["self", "lines"] (spSI P w K A) := by
  have G_Kin_init : FnOk P w K mg base CX0 1 L.Kin_init.f L.Kin_init.fd ["self", "name", "parent"] (spKI A) := ok_Kin_init L
  refine L.Store_init.F.ok sc_Store_init (fun vs H Q E h => ?_) (fun cdv A' outer s H vs Q E hr h => ?_)
  · obtain ⟨a, dx, l, ls, rfl, _⟩ := h
    rfl
  · obtain ⟨a, dx, l, ls, rfl, ha, hl, hla, q⟩ := h
    refine ⟨_, (pss_cons (ps_fld (pv 0) (pe_lst (pa_cons (pe_make L.Kin_init.m G_Kin_init (hr.mono (by omega)) (by rfl) L.c_Kin.g L.Kin_init.b .nil pass0 (pa_cons pe_str (pa_cons pe_non pa_nil))) pa_nil)) rfl)
      (pss_cons (ps_fld (pv 0) (pe_lst pa_nil) rfl)
      (pss_cons (ps_fld (pv 0) (pe_callTy call_list_of (by rfl) L.z_list (by decide +kernel) (pa_cons (pv 1) pa_nil)) rfl)
      (pss_one (ps_fld (pv 0) pe_int rfl))))), ?_⟩
    intro y dy ny ndy nyd
    refine ⟨y, dy, _, _, rfl, upd_same, fun H1 m k1 hy nm hm => ⟨rfl, ?_⟩⟩
    have s1 : Same H H1 := Same.made ny ndy k1
    have ha1 := s1 _ _ ha
    have nya : y ≠ a := fun z => by rw [z, ha] at ny; cases ny
    have nm0 : H m = none := by
      by_cases h1 : m = y
      · rw [h1]; exact ny
      · by_cases h2 : m = dy
        · rw [h2]; exact ndy
        · rw [upd_ne h1, upd_ne h2] at nm; exact nm
    have nma : m ≠ a := fun z => by rw [z, ha] at nm0; cases nm0
    refine ⟨(by show 1 ≤ sizeLine; decide), fun t nt => ?_⟩
    refine ⟨_, rfl, a, A.Store, dx, [], rfl, (by rw [upd_ne (ne_of_none ha1 nt)]; exact ha1), L.c_Store.cl, L.n_Store_things, (by show 0 < 1000; decide), ?_⟩
    have T1 := two (U := .lst [.ref y]) (I := .ins A.Store dx (putF "things" (V.ref t) [])) nt ha1
    generalize upd (upd H1 t (.lst [V.ref y])) a (.ins A.Store dx (putF "things" (V.ref t) [])) = H2 at T1 ⊢
    refine ⟨Nat.zero_le _, fun o no => ?_⟩
    refine ⟨_, rfl, a, A.Store, dx, _, rfl, (by rw [upd_ne (ne_of_none T1.aa no)]; exact T1.aa), L.c_Store.cl, L.n_Store_output, (by show 1 < 1000; decide), ?_⟩
    have T2 := two (U := .lst []) (I := .ins A.Store dx (putF "output" (V.ref o) (putF "things" (V.ref t) []))) no T1.aa
    generalize upd (upd H2 o (.lst [])) a (.ins A.Store dx (putF "output" (V.ref o) (putF "things" (V.ref t) []))) = H3 at T2 ⊢
    have k13 : ∀ b u, H b = some u → b ≠ a → H3 b = some u := fun b u e n => T2.kk _ _ (T1.kk _ _ (s1 _ _ e) n) n
    have hl3 : SqL K H3 l (ls.map V.str) := by
      rcases hl with (hl | ⟨ob, hl⟩) | hl
      · exact .inl (.inl (k13 _ _ hl hla))
      · exact .inl (.inr ⟨ob, k13 _ _ hl hla⟩)
      · exact .inr hl
    refine ⟨_, rfl, l, _, rfl, .inl hl3, fun lm nlm => ?_⟩
    refine ⟨_, rfl, a, A.Store, dx, _, rfl, (by rw [upd_ne (ne_of_none T2.aa nlm)]; exact T2.aa), L.c_Store.cl, L.n_Store_lines, (by show 2 < 1000; decide), ?_⟩
    refine ⟨_, rfl, a, A.Store, dx, _, rfl, upd_same, L.c_Store.cl, L.n_Store_taken, (by show 3 < 1000; decide), ?_⟩
    have T3 := two (U := .lst (ls.map V.str)) (I := .ins A.Store dx (putF "lines" (V.ref lm) (putF "output" (V.ref o) (putF "things" (V.ref t) [])))) nlm T2.aa
    generalize upd (upd H3 lm (.lst (ls.map V.str))) a (.ins A.Store dx (putF "lines" (V.ref lm) (putF "output" (V.ref o) (putF "things" (V.ref t) [])))) = H4 at T3 ⊢
    have kF : ∀ {b : Addr} {u : HO}, H4 b = some u → b ≠ a → upd H4 a (.ins A.Store dx (putF "taken" (V.int 0) (putF "lines" (V.ref lm) (putF "output" (V.ref o) (putF "things" (V.ref t) []))))) b = some u := fun e n => by rw [upd_ne n]; exact e
    have ht4 := T3.kk _ _ (T2.kk _ _ T1.tt T1.na) T1.na
    have ho4 := T3.kk _ _ T2.tt T2.na
    have hy4 := T3.kk _ _ (T2.kk _ _ (T1.kk _ _ hy nya) nya) nya
    have hm4 := T3.kk _ _ (T2.kk _ _ (T1.kk _ _ hm nma) nma) nma
    refine q _ ⟨a, t, o, lm, [y], [m]⟩ rfl (fun b u e n => kF (T3.kk _ _ (k13 _ _ e n) n) n) ⟨⟨dx, upd_same⟩, kF ht4 T1.na, kF ho4 T2.na, kF T3.tt T3.na, rfl, rfl, ?_, ?_, by simp⟩ ?_
    · intro i x' m' d' e1 e2 e3
      match i, e1, e2, e3 with
      | 0, e1, e2, e3 =>
        cases e1
        cases e2
        cases e3
        exact ⟨_, .non, [], kF hy4 nya, rfl, kF hm4 nma, trivial⟩
      | i + 1, e1, e2, e3 => simp at e1
    · have hm1 := hm
      have n1 : t ≠ m := (ne_of_none hm1 nt).symm
      have n2 : t ≠ o := ne_of_none T1.tt no
      have n3 : t ≠ lm := ne_of_none (T2.kk _ _ T1.tt T1.na) nlm
      have n4 : o ≠ m := (ne_of_none (T1.kk _ _ hm1 nma) no).symm
      have n5 : o ≠ lm := ne_of_none T2.tt nlm
      have n6 : lm ≠ m := (ne_of_none (T2.kk _ _ (T1.kk _ _ hm1 nma) nma) nlm).symm
      simp [n1, n2, n3, n4, n5, n6]
    · intro b hb
      rcases hb with rfl | rfl | rfl | rfl | hb | hb
      · exact .inl rfl
      · exact .inr (s1.free nt)
      · exact .inr (s1.free (T1.nn _ no))
      · exact .inr (s1.free (T1.nn _ (T2.nn _ nlm)))
      · rw [List.mem_singleton] at hb
        subst hb
        exact .inr ny
      · rw [List.mem_singleton] at hb
        subst hb
        exact .inr nm0
/-! ### make, at -/
def spMake (P : Program) (w : World) (A : Ads) : Sp := fun vs H Q _ => ∃ (a : Sa) (S : St) (x m : Addr) (d : Th), vs = [.ref a.s, .ref x] ∧ SM P w A H a S ∧ ThAt P w A H x m d ∧ x ∉ a.X ∧ m ∉ a.t :: a.o :: a.l :: a.M ∧ S.things.length < 100000 ∧
  ∀ H' r, Keep a.t H H' → SM P w A H' { a with X := a.X ++ [x], M := a.M ++ [m] } { S with things := S.things ++ [d] } → H r = none → Has A H' (.ref r) (.obj S.things.length) → Q (.ref r) H'
theorem ok_Store_make (L : Lib P K mg A) : FnOk P w K mg base CX0 3 L.Store_make.f L.Store_make.fd ["self", "thing"] (spMake P w A) := by
  have G_Ref_init : FnOk P w K mg base CX0 1 L.Ref_init.f L.Ref_init.fd ["self", "number"] (spI1 A.Ref "number") := ok_Ref_init L
  refine L.Store_make.F.ok sc_Store_make (fun vs H Q E h => ?_) (fun cdv A' outer s H vs Q E hr h => ?_)
  · obtain ⟨a, S, x, m, d, rfl, _⟩ := h
    rfl
  · obtain ⟨a, S, x, m, d, rfl, hS, hd, nx, nm, hl, q⟩ := h
    refine ⟨_, (pss_cons (ps_expr (pe_bm PySem.F.plainAttrs_list PySem.F.slot_list_append PySem.F.type_list_append mt_append (pe_fld (pv 0) rfl) (pa_cons (pv 1) pa_nil)))
      (pss_one (ps_ret (pe_make L.Ref_init.m G_Ref_init (hr.mono (by omega)) (by rfl) L.c_Ref.g L.Ref_init.b .nil pass0 (pa_cons (pe_op op_sub (pe_callB call_len_seq (by rfl) L.z_len PySem.boot_len (pa_cons (pe_fld (pv 0) rfl) pa_nil)) pe_int) pa_nil))))), ?_⟩
    obtain ⟨dx, h1⟩ := hS.s_
    have hlx := hS.lx
    have nst : a.s ≠ a.t := fun z => by rw [z, hS.t_] at h1; cases h1
    refine ⟨_, rfl, a.s, A.Store, dx, _, _, rfl, h1, L.c_Store.cl, L.n_Store_things, st_things _ _ _ _, .inl ⟨rfl, _, SqL.of hS.t_⟩, _, rfl, a.t, _, _, rfl, rfl, hS.t_, Nat.lt_of_le_of_lt (m := 100000) (by rw [List.length_map]; omega) (by decide), ?_⟩
    have e : a.X.map V.ref ++ [V.ref x] = (a.X ++ [x]).map V.ref := by rw [List.map_append]; rfl
    rw [e]
    have P1 := hS.push hd nx nm
    have K1 : Keep a.t H (upd H a.t (.lst ((a.X ++ [x]).map V.ref))) := keep_upd
    refine ⟨_, rfl, a.s, A.Store, dx, _, _, rfl, K1 _ _ h1 nst, L.c_Store.cl, L.n_Store_things, st_things _ _ _ _, a.t, _, rfl, .inl (SqL.of upd_same), _, _, rfl, rfl, ?_⟩
    intro r dr nr ndr ndrr
    refine ⟨r, dr, _, rfl, upd_same, fun H1 k1 hR1 => ⟨rfl, ?_⟩⟩
    have s1 := Same.made nr ndr k1
    have nrt : r ≠ a.t := fun z => by rw [z, upd_same] at nr; cases nr
    refine q _ r (fun b ob e n => s1 _ _ (K1 _ _ e n)) (P1.same s1) (by rw [upd_ne nrt] at nr; exact nr) ⟨r, dr, rfl, ?_⟩
    have : ((((a.X ++ [x]).map V.ref).length : Nat) : Int) - 1 = (S.things.length : Nat) := by
      rw [List.length_map, List.length_append, List.length_singleton]
      omega
    show H1 r = some (.ins A.Ref dr [("number", .int (S.things.length : Nat))])
    rw [← this]
    exact hR1
def spAt (P : Program) (w : World) (A : Ads) : Sp := fun vs H Q _ => ∃ (a : Sa) (S : St) (r x : Addr) (i : Nat), vs = [.ref a.s, .ref r] ∧ SM P w A H a S ∧ Has A H (.ref r) (.obj i) ∧ a.X[i]? = some x ∧ Q (.ref x) H
theorem ok_Store_at (L : Lib P K mg A) : FnOk P w K mg base CX0 1 L.Store_at.f L.Store_at.fd ["self", "ref"] (spAt P w A) := by
  refine L.Store_at.F.ok sc_Store_at (fun vs H Q E h => ?_) (fun cdv A' outer s H vs Q E hr h => ?_)
  · obtain ⟨a, S, r, x, i, rfl, _⟩ := h
    rfl
  · obtain ⟨a, S, r, x, i, rfl, hS, ⟨b, dr, e, hR⟩, hi, q⟩ := h
    cases e
    refine ⟨_, (pss_one (ps_ret (pe_ix ix_list (pe_fld (pv 0) rfl) (pe_fld (pv 1) rfl) (fun _ _ => rfl)))), ?_⟩
    obtain ⟨dx, h1⟩ := hS.s_
    exact ⟨_, rfl, a.s, A.Store, dx, _, _, rfl, h1, L.c_Store.cl, L.n_Store_things, st_things _ _ _ _, _, rfl, r, A.Ref, dr, _, _, rfl, hR, L.c_Ref.cl, L.n_Ref_number, lk_hit, a.t, _, _, .ref x, rfl, rfl, SqL.of hS.t_, atI_nat (by rw [List.getElem?_map, hi]; rfl), q⟩
/-! ### kinds -/
def tP : Th → Bool
  | .parts _ => true
  | _ => false
def tT : Th → Bool
  | .table _ => true
  | _ => false
def tI : Th → Bool
  | .inst _ _ => true
  | _ => false
def tK : Th → Bool
  | .kin _ _ _ => true
  | _ => false
theorem kit_P (L : Lib P K mg A) (d : Th) : PySem.W.kitOne K (.ref (clsT A d)) (.ref A.Parts) = some (tP d) := by
  cases d with
  | parts ds => exact kit_self _
  | clo => exact L.k_Closure_Parts
  | table es => exact L.k_Table_Parts
  | inst o ns => exact L.k_Instance_Parts
  | kin nm par ms => exact L.k_Kin_Parts
theorem kit_T (L : Lib P K mg A) (d : Th) : PySem.W.kitOne K (.ref (clsT A d)) (.ref A.Table) = some (tT d) := by
  cases d with
  | parts ds => exact L.k_Parts_Table
  | clo => exact L.k_Closure_Table
  | table es => exact kit_self _
  | inst o ns => exact L.k_Instance_Table
  | kin nm par ms => exact L.k_Kin_Table
theorem kit_I (L : Lib P K mg A) (d : Th) : PySem.W.kitOne K (.ref (clsT A d)) (.ref A.Instance) = some (tI d) := by
  cases d with
  | parts ds => exact L.k_Parts_Instance
  | clo => exact L.k_Closure_Instance
  | table es => exact L.k_Table_Instance
  | inst o ns => exact kit_self _
  | kin nm par ms => exact L.k_Kin_Instance
theorem kit_K (L : Lib P K mg A) (d : Th) : PySem.W.kitOne K (.ref (clsT A d)) (.ref A.Kin) = some (tK d) := by
  cases d with
  | parts ds => exact L.k_Parts_Kin
  | clo => exact L.k_Closure_Kin
  | table es => exact L.k_Table_Kin
  | inst o ns => exact L.k_Instance_Kin
  | kin nm par ms => exact kit_self _
theorem th_ty (L : Lib P K mg A) {H : Hp} {x m : Addr} {d : Th} (h : ThAt P w A H x m d) : TyX K H (.ref x) (.ref (clsT A d)) := by
  obtain ⟨dx, fs, e⟩ := h.x
  cases d with
  | parts ds => exact L.c_Parts.ty e
  | clo => exact L.c_Closure.ty e
  | table es => exact L.c_Table.ty e
  | inst o ns => exact L.c_Instance.ty e
  | kin nm par ms => exact L.c_Kin.ty e
def kindT : Th → Str
  | .parts _ => "list"
  | .table _ => "map"
  | .inst _ _ => "instance"
  | .kin _ _ _ => "class"
  | .clo => "function"
def spKT (P : Program) (w : World) (A : Ads) : Sp := fun vs H Q _ => ∃ x m d, vs = [.ref x] ∧ ThAt P w A H x m d ∧ Q (.str (kindT d)) H
theorem ok_kind_of_thing (L : Lib P K mg A) : FnOk P w K mg base CX0 1 L.kind_of_thing.f L.kind_of_thing.fd ["thing"] (spKT P w A) := by
  refine L.kind_of_thing.F.ok sc_kind_of_thing (fun vs H Q E h => ?_) (fun cdv A' outer s H vs Q E hr h => ?_)
  · obtain ⟨x, m, d, rfl, _⟩ := h
    rfl
  · obtain ⟨x, m, d, rfl, hd, q⟩ := h
    refine ⟨_, (pss_cons (ps_if (pt_val (pe_callB call_isi (by rfl) L.z_isinstance (by decide +kernel) (pa_cons (pv 0) (pa_cons (pe_gc (v := .ref A.Parts) (by rfl) ⟨_, L.c_Parts.g, rfl⟩) pa_nil))))
        (pss_one (ps_ret pe_str))
        pss_nil)
      (pss_cons (ps_if (pt_val (pe_callB call_isi (by rfl) L.z_isinstance (by decide +kernel) (pa_cons (pv 0) (pa_cons (pe_gc (v := .ref A.Table) (by rfl) ⟨_, L.c_Table.g, rfl⟩) pa_nil))))
        (pss_one (ps_ret pe_str))
        pss_nil)
      (pss_cons (ps_if (pt_val (pe_callB call_isi (by rfl) L.z_isinstance (by decide +kernel) (pa_cons (pv 0) (pa_cons (pe_gc (v := .ref A.Instance) (by rfl) ⟨_, L.c_Instance.g, rfl⟩) pa_nil))))
        (pss_one (ps_ret pe_str))
        pss_nil)
      (pss_cons (ps_if (pt_val (pe_callB call_isi (by rfl) L.z_isinstance (by decide +kernel) (pa_cons (pv 0) (pa_cons (pe_gc (v := .ref A.Kin) (by rfl) ⟨_, L.c_Kin.g, rfl⟩) pa_nil))))
        (pss_one (ps_ret pe_str))
        pss_nil)
      (pss_one (ps_ret pe_str)))))), ?_⟩
    have ty := th_ty L hd
    refine ⟨_, rfl, _, .ref A.Parts, _, .ref A.Parts, _, rfl, .own _, ty, kit_P L d, _, rfl, ite_or (fun e => ?_) fun e1 => ?_⟩
    · cases d <;> first | exact q | (cases e; done)
    refine ⟨_, rfl, _, .ref A.Table, _, .ref A.Table, _, rfl, .own _, ty, kit_T L d, _, rfl, ite_or (fun e => ?_) fun e2 => ?_⟩
    · cases d <;> first | exact q | (cases e; done)
    refine ⟨_, rfl, _, .ref A.Instance, _, .ref A.Instance, _, rfl, .own _, ty, kit_I L d, _, rfl, ite_or (fun e => ?_) fun e3 => ?_⟩
    · cases d <;> first | exact q | (cases e; done)
    refine ⟨_, rfl, _, .ref A.Kin, _, .ref A.Kin, _, rfl, .own _, ty, kit_K L d, _, rfl, ite_or (fun e => ?_) fun e4 => ?_⟩
    · cases d <;> first | exact q | (cases e; done)
    cases d <;> first | exact q | (cases e1; done) | (cases e2; done) | (cases e3; done) | (cases e4; done)
def kindD (S : St) : Dv → Str
  | .non => "null"
  | .bl _ => "boolean"
  | .int _ => "integer"
  | .str _ => "text"
  | .bi _ => "function"
  | .obj n => match S.things[n]? with
    | some d => kindT d
    | none => "function"
def okV (S : St) : Dv → Prop
  | .obj n => n < S.things.length
  | _ => True
def spKO (P : Program) (w : World) (A : Ads) : Sp := fun vs H Q _ => ∃ (a : Sa) (S : St) (v : V) (d : Dv), vs = [.ref a.s, v] ∧ SM P w A H a S ∧ Has A H v d ∧ okV S d ∧ Q (.str (kindD S d)) H
theorem ok_kind_of (L : Lib P K mg A) : FnOk P w K mg base CX0 2 L.kind_of.f L.kind_of.fd ["store", "value"] (spKO P w A) := by
  have G_kind_of_thing : FnOk P w K mg base CX0 1 L.kind_of_thing.f L.kind_of_thing.fd ["thing"] (spKT P w A) := ok_kind_of_thing L
  have G_Store_at : FnOk P w K mg base CX0 1 L.Store_at.f L.Store_at.fd ["self", "ref"] (spAt P w A) := ok_Store_at L
  refine L.kind_of.F.ok sc_kind_of (fun vs H Q E h => ?_) (fun cdv A' outer s H vs Q E hr h => ?_)
  · obtain ⟨a, S, v, d, rfl, _⟩ := h
    rfl
  · obtain ⟨a, S, v, d, rfl, hS, hv, ho, q⟩ := h
    refine ⟨_, (pss_cons (ps_if (pt_cmpR op_isN (pv 1) pe_non (nomark _))
        (pss_one (ps_ret pe_str))
        pss_nil)
      (pss_cons (ps_if (pt_val (pe_callB call_isi (by rfl) L.z_isinstance (by decide +kernel) (pa_cons (pv 1) (pa_cons (pe_bltn (v := .ty "bool") (by rfl) L.z_bool (by decide +kernel) rfl) pa_nil))))
        (pss_one (ps_ret pe_str))
        pss_nil)
      (pss_cons (ps_if (pt_val (pe_callB call_isi (by rfl) L.z_isinstance (by decide +kernel) (pa_cons (pv 1) (pa_cons (pe_bltn (v := .ty "int") (by rfl) L.z_int (by decide +kernel) rfl) pa_nil))))
        (pss_one (ps_ret pe_str))
        pss_nil)
      (pss_cons (ps_if (pt_val (pe_callB call_isi (by rfl) L.z_isinstance (by decide +kernel) (pa_cons (pv 1) (pa_cons (pe_bltn (v := .ty "str") (by rfl) L.z_str (by decide +kernel) rfl) pa_nil))))
        (pss_one (ps_ret pe_str))
        pss_nil)
      (pss_cons (ps_if (pt_val (pe_callB call_isi (by rfl) L.z_isinstance (by decide +kernel) (pa_cons (pv 1) (pa_cons (pe_gc (v := .ref A.Ref) (by rfl) ⟨_, L.c_Ref.g, rfl⟩) pa_nil))))
        (pss_one (ps_ret (pe_call G_kind_of_thing (hr.mono (by omega)) (by rfl) L.kind_of_thing.g L.kind_of_thing.F.kp L.kind_of_thing.b .nil pass0 (pa_cons (pe_meth (pv 0) L.c_Store.cl L.Store_at.m G_Store_at (hr.mono (by omega)) L.Store_at.b .nil pass0 (pa_cons (pv 1) pa_nil)) pa_nil))))
        pss_nil)
      (pss_one (ps_ret pe_str))))))), ?_⟩
    have ty := has_ty L hv
    have isn : decide (v = V.non) = decide (d = .non) := by
      cases d with
      | non => cases hv; rfl
      | obj n => obtain ⟨b, dx, rfl, _⟩ := hv; rfl
      | bi n => obtain ⟨b, dx, rfl, _⟩ := hv; rfl
      | _ => cases hv; rfl
    refine ⟨_, rfl, rfl, _, rfl, ite_or (fun e => ?_) fun e0 => ?_⟩
    · rw [isn] at e
      have : d = .non := of_decide_eq_true e
      subst this
      exact q
    rw [isn] at e0
    refine ⟨_, rfl, v, .ty "bool", _, _, _, rfl, .ty _, ty, kit_bool L d, _, rfl, ite_or (fun e => ?_) fun e1 => ?_⟩
    · cases d <;> first | exact q | (cases e; done)
    refine ⟨_, rfl, v, .ty "int", _, _, _, rfl, .ty _, ty, kit_int L d, _, rfl, ite_or (fun e => ?_) fun e2 => ?_⟩
    · cases d <;> first | exact q | (cases e; done) | (cases e1; done)
    refine ⟨_, rfl, v, .ty "str", _, _, _, rfl, .ty _, ty, kit_str L d, _, rfl, ite_or (fun e => ?_) fun e3 => ?_⟩
    · cases d <;> first | exact q | (cases e; done)
    refine ⟨_, rfl, v, .ref A.Ref, _, .ref A.Ref, _, rfl, .own _, ty, kit_R L d, _, rfl, ite_or (fun e => ?_) fun e4 => ?_⟩
    · cases d with
      | obj n =>
        obtain ⟨th, hth⟩ : ∃ th, S.things[n]? = some th := ⟨_, List.getElem?_eq_getElem ho⟩
        obtain ⟨x, m, hx, hm, ht⟩ := hS.get hth
        obtain ⟨dx, h1⟩ := hS.s_
        have q' : Q (.str (kindT th)) H := by
          have : kindD S (.obj n) = kindT th := by
            show (match S.things[n]? with
              | some d => kindT d
              | none => "function") = kindT th
            rw [hth]
          rw [← this]
          exact q
        obtain ⟨b, db, rfl, hb⟩ := hv
        exact ⟨_, rfl, a.s, dx, _, rfl, h1, st_no _ _ _ _ (by decide +kernel) (by decide +kernel) (by decide +kernel) (by decide +kernel), _, rfl, a, S, b, x, n, rfl, hS, ⟨b, db, rfl, hb⟩, hx, x, m, th, rfl, ht, q'⟩
      | _ => cases e
    cases d <;> first | exact q | (cases e0; done) | (cases e1; done) | (cases e2; done) | (cases e3; done) | (cases e4; done)
end
end My
namespace My
open PySem L2 SX XT XS XE
open C8 (pss_cut tCut cutS_slice pe_gc)
def Err (E : XK) (cE : Addr) (H : Hp) (k m : Str) : Prop := ∀ d, H d = none → E (.ref cE) (some d) (upd H d (.xd [("message", .str m), ("kind", .str k)]))
/-! ### entries -/
def valE (es : List (Dv × Dv)) (k : Dv) : Option Dv := (es.find? fun p => decide (p.1 = k)).map (·.2)
def putE (es : List (Dv × Dv)) (k v : Dv) : List (Dv × Dv) := if (valE es k).isSome = true then es.map (fun p => if p.1 = k then (p.1, v) else p) else es ++ [(k, v)]
theorem Ents.len {A : Ads} {H : Hp} : ∀ {es : List Ent} {ps : List (Dv × Dv)}, Ents A H es ps → es.length = ps.length
  | [], [], _ => rfl
  | _ :: _, _ :: _, h => congrArg (· + 1) (Ents.len h.2)
  | [], _ :: _, h => h.elim
  | _ :: _, [], h => h.elim
theorem Ents.val {A : Ads} {H : Hp} {k : Dv} (hk : keyD k = true) : ∀ {es : List Ent} {ps : List (Dv × Dv)}, Ents A H es ps → (valT es (toV k)).isSome = (valE ps k).isSome
  | [], [], _ => rfl
  | e :: es, p :: ps, h => by
    have ih := Ents.val hk h.2
    unfold valT valE at ih ⊢
    rw [List.find?_cons, List.find?_cons]
    have : decide (e.1 = toV k) = decide (p.1 = k) := by
      rw [decide_eq_decide, h.1.2.1]
      exact ⟨fun z => toV_inj h.1.1 hk z, fun z => by rw [z]⟩
    rw [this]
    by_cases c : p.1 = k
    · rw [decide_eq_true c]; rfl
    · rw [decide_eq_false c]; exact ih
  | [], _ :: _, h => h.elim
  | _ :: _, [], h => h.elim
theorem Ents.app {A : Ads} {H : Hp} : ∀ {es fs : List Ent} {ps qs : List (Dv × Dv)}, Ents A H es ps → Ents A H fs qs → Ents A H (es ++ fs) (ps ++ qs)
  | [], _, [], _, _, g => g
  | _ :: _, _, _ :: _, _, h, g => ⟨h.1, Ents.app h.2 g⟩
  | [], _, _ :: _, _, h, _ => h.elim
  | _ :: _, _, [], _, h, _ => h.elim
theorem Ents.put {A : Ads} {H : Hp} {k v : Dv} {b q : Addr} {vv : V} (hk : keyD k = true) (hq : H q = some (.tup [toV k, vv])) (hv : Has A H vv v) {es : List Ent} {ps : List (Dv × Dv)} (h : Ents A H es ps) : Ents A H (putT es (toV k) b (.ref q)) (putE ps k v) := by
  unfold putT putE
  rw [h.val hk]
  split
  · have : ∀ {es : List Ent} {ps : List (Dv × Dv)}, Ents A H es ps → Ents A H (es.map fun e => if e.1 = toV k then (e.1, e.2.1, .ref q) else e) (ps.map fun p => if p.1 = k then (p.1, v) else p) := by
      intro es
      induction es with
      | nil =>
        intro ps h
        cases ps with
        | nil => trivial
        | cons p ps => exact h.elim
      | cons e es ih =>
        intro ps h
        cases ps with
        | nil => exact h.elim
        | cons p ps =>
          obtain ⟨⟨k1, k2, q1, v1, k3, k4, k5⟩, r⟩ := h
          refine ⟨?_, ih r⟩
          by_cases c : p.1 = k
          · have c2 : e.1 = toV k := by rw [k2, c]
            simp only [c2, c, if_true]
            exact ⟨by rw [← c]; exact k1, trivial, q, vv, rfl, hq, hv⟩
          · have c2 : ¬ e.1 = toV k := fun z => c (toV_inj k1 hk (k2.symm.trans z))
            simp only [c2, c, if_false]
            exact ⟨k1, k2, q1, v1, k3, k4, k5⟩
    exact this h
  · exact h.app ⟨⟨hk, rfl, q, vv, rfl, hq, hv⟩, trivial⟩
theorem valE_some {es : List (Dv × Dv)} {k : Dv} : (valE es k).isSome = true ↔ k ∈ es.map Prod.fst := by
  unfold valE
  rw [Option.isSome_map, List.find?_isSome]
  constructor
  · rintro ⟨p, hp, e⟩
    exact List.mem_map.mpr ⟨p, hp, of_decide_eq_true e⟩
  · intro h
    obtain ⟨p, hp, e⟩ := List.mem_map.mp h
    exact ⟨p, hp, decide_eq_true e⟩
theorem putE_keys {es : List (Dv × Dv)} {k v : Dv} : (putE es k v).map Prod.fst = if k ∈ es.map Prod.fst then es.map Prod.fst else es.map Prod.fst ++ [k] := by
  unfold putE
  by_cases h : (valE es k).isSome = true
  · rw [if_pos h, if_pos (valE_some.mp h), List.map_map]
    refine List.map_congr_left fun p _ => ?_
    show (if p.1 = k then (p.1, v) else p).1 = p.1
    split <;> rfl
  · rw [if_neg h, if_neg fun z => h (valE_some.mpr z), List.map_append]
    rfl
theorem putE_nd {es : List (Dv × Dv)} {k v : Dv} (h : (es.map Prod.fst).Nodup) : ((putE es k v).map Prod.fst).Nodup := by
  rw [putE_keys]
  split
  · exact h
  · rename_i c
    rw [List.nodup_append]
    refine ⟨h, by simp, fun x hx y hy z => ?_⟩
    rw [List.mem_singleton] at hy
    rw [z, hy] at hx
    exact c hx
theorem putE_len {es : List (Dv × Dv)} {k v : Dv} : (putE es k v).length ≤ es.length + 1 ∧ ((valE es k).isSome = true → (putE es k v).length = es.length) := by
  unfold putE
  split
  · simp
  · rename_i c
    exact ⟨by simp, fun z => absurd z c⟩
theorem putE_new {es : List (Dv × Dv)} {k v : Dv} (h : k ∉ es.map Prod.fst) : putE es k v = es ++ [(k, v)] := by
  unfold putE
  rw [if_neg fun z => h (valE_some.mp z)]
/-! ### how a store goes on -/
structure Ev (a a' : Sa) (H H' : Hp) : Prop where
  fr : Fr a H H'
  s : a'.s = a.s
  gw : ∀ b, a'.own b → a.own b ∨ H b = none
theorem Ev.trans {a b c : Sa} {H H1 H2 : Hp} (x : Ev a b H H1) (y : Ev b c H1 H2) : Ev a c H H2 := by
  refine ⟨fun d u e n => y.fr _ _ (x.fr _ _ e n) fun z => ?_, y.s.trans x.s, fun d z => ?_⟩
  · rcases x.gw d z with q | q
    · exact n q
    · rw [q] at e; cases e
  · rcases y.gw d z with q | q
    · exact x.gw d q
    · cases e : H d with
      | none => exact .inr rfl
      | some u =>
        by_cases o : a.own d
        · exact .inl o
        · rw [x.fr _ _ e o] at q; cases q
theorem Ev.same {a : Sa} {H H' : Hp} (s : Same H H') : Ev a a H H' := ⟨fun b u e _ => s b u e, rfl, fun _ z => .inl z⟩
theorem Ev.rfl' {a : Sa} {H : Hp} : Ev a a H H := Ev.same fun _ _ e => e
theorem Ev.nin {a a' : Sa} {H H' : Hp} (x : Ev a a' H H') {p : Addr} {u : HO} (e : H p = some u) (n : ¬ a.own p) : ¬ a'.own p := fun z => by
  rcases x.gw p z with q | q
  · exact n q
  · rw [q] at e; cases e
theorem op_notTrue {X : Cx} : OpR X (compareOp .IsNot) (fun x y H Q => x = .bl true ∧ y = .bl true ∧ Q (.bl false) H) := by
  intro pins s σ H x y v u Q I rx ry h
  obtain ⟨rfl, rfl, q⟩ := h
  cases (show u = Value.bool true from ry)
  cases (show v = Value.bool true from rx)
  exact wpAny_isNot_self rfl ⟨.bl false, H, I, rfl, q⟩
section
variable {P : Program} {w : World} {K : PySem.W.Frag} {mg : Str → Option Value} {base : Heap} {A : Ads}
/-! ### checks that hold -/
def spCS : Sp := fun vs H Q _ => ∃ i : Int, vs = [.int i] ∧ i ≤ 1000 ∧ Q .non H
theorem ok_check_size (L : Lib P K mg A) : FnOk P w K mg base CX0 1 L.check_size.f L.check_size.fd ["size"] spCS := by
  refine L.check_size.F.ok sc_check_size (fun vs H Q E h => ?_) (fun cdv A' outer s H vs Q E hr h => ?_)
  · obtain ⟨i, rfl, _⟩ := h
    rfl
  · obtain ⟨i, rfl, hi, q⟩ := h
    refine ⟨_, (pss_one (ps_if (pt_cmpR op_gt (pv 0) (pe_glob (v := .int 1000) (by rfl) L.v_MOST_HELD.choose_spec ⟨_, rfl⟩) (nomark _))
        (pss_one ps_never)
        pss_nil)), ?_⟩
    exact ⟨_, rfl, _, _, rfl, rfl, _, rfl, ifF (decide_eq_false (by omega)) q⟩
theorem kit_is2 (L : Lib P K mg A) (d : Dv) : PySem.W.kitAny K (tyD A d) [.type "int", .type "str"] = some (dI d || dS d) := by
  unfold PySem.W.kitAny
  rw [kit_int L d]
  cases h : dI d with
  | true => rfl
  | false =>
    unfold PySem.W.kitAny
    rw [kit_str L d]
    cases dS d <;> rfl
def spIK (A : Ads) : Sp := fun vs H Q _ => ∃ v d, vs = [v] ∧ Has A H v d ∧ ∀ H', Same H H' → Q (.bl (keyD d)) H'
theorem ok_is_key (L : Lib P K mg A) : FnOk P w K mg base CX0 1 L.is_key.f L.is_key.fd ["value"] (spIK A) := by
  refine L.is_key.F.ok sc_is_key (fun vs H Q E h => ?_) (fun cdv A' outer s H vs Q E hr h => ?_)
  · obtain ⟨v, d, rfl, _⟩ := h
    rfl
  · obtain ⟨v, d, rfl, hv, q⟩ := h
    refine ⟨_, (pss_one (ps_ret (pe_or (pe_cmpR op_isN (pv 0) pe_non (nomark _)) (pe_one (pe_callB call_isiT (by rfl) L.z_isinstance (by decide +kernel) (pa_cons (pv 0) (pa_cons (pe_tup (pa_cons (pe_bltn (v := .ty "int") (by rfl) L.z_int (by decide +kernel) rfl) (pa_cons (pe_bltn (v := .ty "str") (by rfl) L.z_str (by decide +kernel) rfl) pa_nil))) pa_nil))))))), ?_⟩
    refine ⟨_, rfl, rfl, _, rfl, ite_or (fun e => ?_) fun e0 => ?_⟩
    · have : d = .non := by
        have e := of_decide_eq_true e
        subst e
        cases d with
        | non => rfl
        | obj n => obtain ⟨b, dx, z, _⟩ := hv; cases z
        | bi n => obtain ⟨b, dx, z, _⟩ := hv; cases z
        | _ => cases hv
      subst this
      exact q H fun _ _ e => e
    · refine ⟨_, rfl, (by show 2 ≤ sizeLine; decide), fun p np => ?_⟩
      have s1 := same_upd (o := .tup [.ty "int", .ty "str"]) np
      refine ⟨v, p, [.ty "int", .ty "str"], tyD A d, [.type "int", .type "str"], keyD d, rfl, upd_same, .cons (.ty _) (.cons (.ty _) .nil), has_ty L (hv.sv (Same.sv s1)), ?_, q _ s1⟩
      refine (kit_is2 L d).trans ?_
      cases d with
      | non => cases hv; cases e0
      | _ => rfl
def spCK (A : Ads) : Sp := fun vs H Q _ => ∃ v d, vs = [v] ∧ Has A H v d ∧ keyD d = true ∧ ∀ H', Same H H' → Q .non H'
theorem ok_check_key (L : Lib P K mg A) : FnOk P w K mg base CX0 2 L.check_key.f L.check_key.fd ["key"] (spCK A) := by
  have G_is_key : FnOk P w K mg base CX0 1 L.is_key.f L.is_key.fd ["value"] (spIK A) := ok_is_key L
  refine L.check_key.F.ok sc_check_key (fun vs H Q E h => ?_) (fun cdv A' outer s H vs Q E hr h => ?_)
  · obtain ⟨v, d, rfl, _⟩ := h
    rfl
  · obtain ⟨v, d, rfl, hv, hk, q⟩ := h
    refine ⟨_, (pss_one (ps_if (pt_not (pt_val (pe_call G_is_key (hr.mono (by omega)) (by rfl) L.is_key.g L.is_key.F.kp L.is_key.b .nil pass0 (pa_cons (pv 0) pa_nil))))
        (pss_one ps_never)
        pss_nil)), ?_⟩
    exact ⟨_, rfl, v, d, rfl, hv, fun H' s1 => ⟨_, rfl, by rw [hk]; exact iteF (q H' s1)⟩⟩
def spPE (P : Program) (w : World) (A : Ads) : Sp := fun vs H Q _ => ∃ x m kv vv k d ents es, vs = [.ref x, kv, vv] ∧ TblAt P w A H x m ents ∧ Ents A H ents es ∧ Has A H kv k ∧ keyD k = true ∧ Has A H vv d ∧ es.length < 1000 ∧
  ∀ H' ents', Keep m H H' → TblAt P w A H' x m ents' → Ents A H' ents' (putE es k d) → Q .non H'
theorem ok_put_entry (L : Lib P K mg A) : FnOk P w K mg base CX0 3 L.put_entry.f L.put_entry.fd ["table", "key", "value"] (spPE P w A) := by
  have G_check_key : FnOk P w K mg base CX0 2 L.check_key.f L.check_key.fd ["key"] (spCK A) := ok_check_key L
  have G_check_size : FnOk P w K mg base CX0 1 L.check_size.f L.check_size.fd ["size"] spCS := ok_check_size L
  have G_Table_has : FnOk P w K mg base CX0 2 L.Table_has.f L.Table_has.fd ["self", "key"] (spTHas P w A) := ok_Table_has L
  have G_Table_many : FnOk P w K mg base CX0 1 L.Table_many.f L.Table_many.fd ["self"] (spTMany P w A) := ok_Table_many L
  have G_Table_put : FnOk P w K mg base CX0 2 L.Table_put.f L.Table_put.fd ["self", "key", "value"] (spTPut P w A) := ok_Table_put L
  refine L.put_entry.F.ok sc_put_entry (fun vs H Q E h => ?_) (fun cdv A' outer s H vs Q E hr h => ?_)
  · obtain ⟨x, m, kv, vv, k, d, ents, es, rfl, _⟩ := h
    rfl
  · obtain ⟨x, m, kv, vv, k, d, ents, es, rfl, hT, hE, hk, hkd, hv, hl, q⟩ := h
    obtain ⟨ekv, kok⟩ := has_key hk hkd
    subst ekv
    have hlen := hE.len
    refine ⟨_, (pss_cons (ps_expr (pe_call G_check_key (hr.mono (by omega)) (by rfl) L.check_key.g L.check_key.F.kp L.check_key.b .nil pass0 (pa_cons (pv 1) pa_nil)))
      (pss_cut (ps_if (pt_not (pt_val (pe_meth (pv 0) L.c_Table.cl L.Table_has.m G_Table_has (hr.mono (by omega)) L.Table_has.b .nil pass0 (pa_cons (pv 1) pa_nil))))
        (pss_one (ps_expr (pe_call G_check_size (hr.mono (by omega)) (by rfl) L.check_size.g L.check_size.F.kp L.check_size.b .nil pass0 (pa_cons (pe_op op_add (pe_prop (pv 0) L.c_Table.cl L.Table_many.m G_Table_many (hr.mono (by omega)) L.Table_many.b .nil pass0 rfl) pe_int) pa_nil))))
        pss_nil)
      (pss_one (ps_expr (pe_meth (pv 0) L.c_Table.cl L.Table_put.m G_Table_put (hr.mono (by omega)) L.Table_put.b .nil pass0 (pa_cons (pv 1) (pa_cons (pv 2) pa_nil))))))), ?_⟩
    obtain ⟨⟨dx, hx⟩, _, _⟩ := id hT
    have last : ∀ H3, Same H H3 → TblAt P w A H3 x m ents → Ents A H3 ents es → spTPut P w A [.ref x, toV k, vv] H3 (fun v H' => v = .non ∧ Q .non H') (fun _ _ _ => False) := fun H3 s3 hT3 hE3 => by
      refine ⟨x, m, ents, toV k, vv, rfl, hT3, kok, by omega, fun H' b q' kk hT' hq' nq' => ⟨rfl, ?_⟩⟩
      have ct := hT3.tab.at_
      have vk : Vk A H3 H' := ⟨fun v d h => by
        cases d with
        | obj n =>
          obtain ⟨b, dx, rfl, e⟩ := h
          exact ⟨b, dx, rfl, kk _ _ e fun z => by rw [z, ct] at e; cases e⟩
        | bi n =>
          obtain ⟨b, dx, rfl, e⟩ := h
          exact ⟨b, dx, rfl, kk _ _ e fun z => by rw [z, ct] at e; cases e⟩
        | _ => exact h, fun q xs e => kk _ _ e fun z => by rw [z, ct] at e; cases e⟩
      refine q H' _ (fun c u e n => kk _ _ (s3 _ _ e) n) hT' ((hE3.imp vk.v vk.t).put hkd hq' (vk.v _ _ (hv.sv (Same.sv s3))))
    let M : List (Option V) → Hp → Prop := fun σ' H' => σ' = [some (.ref x), some (toV k), some vv] ∧ Same H H'
    refine ⟨_, rfl, _, k, rfl, hk, hkd, fun H1 s1 => ⟨M, ?_, ?_⟩⟩
    · have hT1 := hT.same s1
      refine ⟨_, rfl, x, dx, _, rfl, s1 _ _ hx, tab_none (by decide +kernel), _, rfl, x, m, ents, _, rfl, hT1, kok, fun H2 s2 => ⟨_, rfl, ?_⟩⟩
      have s12 := s1.trans s2
      refine ite_or (fun _ => ?_) (fun _ => ⟨rfl, s12⟩)
      have hT2 := hT.same s12
      exact ⟨_, rfl, x, dx, _, rfl, s12 _ _ hx, x, m, ents, rfl, hT2, _, _, rfl, rfl, _, rfl, by omega, rfl, s12⟩
    · rintro σ' H3 ⟨rfl, s3⟩
      refine ⟨_, rfl, x, dx, _, rfl, s3 _ _ hx, tab_none (by decide +kernel), _, rfl, _, rfl, ?_⟩
      obtain ⟨x', m', e', k', v', z, a1, a2, a3, a4⟩ := last H3 s3 (hT.same s3) (hE.imp (fun v d h => h.sv (Same.sv s3)) (fun q xs e => s3 _ _ e))
      exact ⟨x', m', e', k', v', z, a1, a2, a3, fun H' b q' p1 p2 p3 p4 => (a4 H' b q' p1 p2 p3 p4).2⟩
end
end My
namespace My
open PySem L2 SX XT XS XE
open XD
open C8 (pss_cut tCut cutS_slice pe_gc)
/-- a method of a local that holds an instance of one of several classes -/
def tM0A (i : Nat) (m : Str) (S : Addr → Option Sp) : TE := fun σ H Q => ∃ p C dx fs sp, σ[i]? = some (some (.ref p)) ∧ H p = some (.ins C dx fs) ∧ fs.lookup m = none ∧ S C = some sp ∧ sp [.ref p] H Q E0
theorem pe_meth0A {X : Cx} {S : Addr → Option Sp} {x m : Str} {k i : Nat} {npos apos pos : Pos} (R : ∀ C sp, S C = some sp → ∃ (f : Addr) (fd : FuncData) (ps : List Str), Cls X.K C ∧ Meth X.K C m f ∧ FnOk X.prog X.w X.K X.mg X.base CX0 k f fd ps sp ∧ Binds X.K fd ps [])
    (hr : Room k X.A) (hN : X.N[i]? = some x) (hv : Vis X.env.scope x) (hdb : (x == ("__debug__" : Str)) = false) (hcd : (x == ("__classdict__" : Str)) = false)
    {pl : Sem Bool}
    (ht : eval (.Call (.Attribute (.Name x npos) m apos) [] [] pos) X.env = (do
      let ov ← eval (.Name x npos) X.env
      standAt apos.atName
      let (f, first) ← holding [ov] (getMethod ov m pl)
      callWith pos f first (backTo pos (starEach [] X.env)) (backToKw pos (keywordEach [] X.env))) := by rfl) :
    PE X (.Call (.Attribute (.Name x npos) m apos) [] [] pos) (tM0A i m S) := by
  refine ⟨fun pins s σ H Q I h => ?_⟩
  obtain ⟨p, C, dx, fs, sp, h1, h2, h3, h4, h5⟩ := h
  obtain ⟨f, fd, ps, c, hm, F, b⟩ := R C sp h4
  exact (pe_meth0 (pv i hN hv hdb hcd) c hm F hr b .nil pass0 ht).run pins s σ H Q I ⟨.ref p, h1, p, dx, fs, rfl, h2, h3, h5⟩
section
variable {P : Program} {w : World} {K : PySem.W.Frag} {mg : Str → Option Value} {base : Heap} {A : Ads}
theorem SM.fresh {H : Hp} {a : Sa} {S : St} (L : Lib P K mg A) (h : SM P w A H a S) {b : Addr} (n : H b = none) : ¬ a.own b := fun z => by
  obtain ⟨u, e, _⟩ := h.nv L z
  rw [n] at e
  cases e
theorem SM.grow {H H1 : Hp} {a : Sa} {S : St} {x m : Addr} (L : Lib P K mg A) (h : SM P w A H a S) (s1 : Same H H1) (nx : H x = none) (nm : H m = none) :
    x ∉ a.X ∧ m ∉ a.t :: a.o :: a.l :: a.M ∧ ∀ H2, Keep a.t H1 H2 → Ev a { a with X := a.X ++ [x], M := a.M ++ [m] } H H2 := by
  have fx := h.fresh L nx
  have fm := h.fresh L nm
  refine ⟨fun z => fx (.inr (.inr (.inr (.inr (.inl z))))), fun z => ?_, fun H2 k => ⟨fun b u e n => k _ _ (s1 _ _ e) fun z => n (.inr (.inl z)), rfl, fun b z => ?_⟩⟩
  · simp only [List.mem_cons] at z
    rcases z with z | z | z | z
    · exact fm (.inr (.inl z))
    · exact fm (.inr (.inr (.inl z)))
    · exact fm (.inr (.inr (.inr (.inl z))))
    · exact fm (.inr (.inr (.inr (.inr (.inr z)))))
  · rcases z with z | z | z | z | z | z
    · exact .inl (.inl z)
    · exact .inl (.inr (.inl z))
    · exact .inl (.inr (.inr (.inl z)))
    · exact .inl (.inr (.inr (.inr (.inl z))))
    · rcases List.mem_append.mp z with z | z
      · exact .inl (.inr (.inr (.inr (.inr (.inl z)))))
      · rw [List.mem_singleton] at z; exact .inr (z ▸ nx)
    · rcases List.mem_append.mp z with z | z
      · exact .inl (.inr (.inr (.inr (.inr (.inr z)))))
      · rw [List.mem_singleton] at z; exact .inr (z ▸ nm)
/-- how a new thing is told -/
def New (P : Program) (w : World) (A : Ads) (a : Sa) (S : St) (H : Hp) (d : Th) (Q : VK) : Prop := ∀ H' r a', Ev a a' H H' → SM P w A H' a' { S with things := S.things ++ [d] } → Has A H' (.ref r) (.obj S.things.length) → Q (.ref r) H'
def spML (P : Program) (w : World) (K : PySem.W.Frag) (A : Ads) : Sp := fun vs H Q _ => ∃ (a : Sa) (S : St) (l : Addr) (us : List V) (ds : List Dv), vs = [.ref a.s, .ref l] ∧ SM P w A H a S ∧ SqL K H l us ∧ Hs A H us ds ∧ ds.length ≤ 1000 ∧ S.things.length < 100000 ∧ New P w A a S H (.parts ds) Q
theorem ok_make_list (L : Lib P K mg A) : FnOk P w K mg base CX0 4 L.make_list.f L.make_list.fd ["store", "values"] (spML P w K A) := by
  have G_check_size : FnOk P w K mg base CX0 1 L.check_size.f L.check_size.fd ["size"] spCS := ok_check_size L
  have G_Store_make : FnOk P w K mg base CX0 3 L.Store_make.f L.Store_make.fd ["self", "thing"] (spMake P w A) := ok_Store_make L
  have G_Parts_init : FnOk P w K mg base CX0 1 L.Parts_init.f L.Parts_init.fd ["self", "held"] (spHI A.Parts "held" K) := ok_Parts_init L
  refine L.make_list.F.ok sc_make_list (fun vs H Q E h => ?_) (fun cdv A' outer s H vs Q E hr h => ?_)
  · obtain ⟨a, S, l, us, ds, rfl, _⟩ := h
    rfl
  · obtain ⟨a, S, l, us, ds, rfl, hS, hl, hd, hn, hb, q⟩ := h
    have hul := hd.len
    refine ⟨_, (pss_cons (ps_expr (pe_call G_check_size (hr.mono (by omega)) (by rfl) L.check_size.g L.check_size.F.kp L.check_size.b .nil pass0 (pa_cons (pe_callB call_len_seq (by rfl) L.z_len PySem.boot_len (pa_cons (pv 1) pa_nil)) pa_nil)))
      (pss_one (ps_ret (pe_meth (pv 0) L.c_Store.cl L.Store_make.m G_Store_make (hr.mono (by omega)) L.Store_make.b .nil pass0 (pa_cons (pe_make L.Parts_init.m G_Parts_init (hr.mono (by omega)) (by rfl) L.c_Parts.g L.Parts_init.b .nil pass0 (pa_cons (pv 1) pa_nil)) pa_nil))))), ?_⟩
    refine ⟨_, rfl, l, us, rfl, .inl hl, _, rfl, by omega, ?_⟩
    obtain ⟨dx, h1⟩ := hS.s_
    refine ⟨_, rfl, a.s, dx, _, rfl, h1, st_no _ _ _ _ (by decide +kernel) (by decide +kernel) (by decide +kernel) (by decide +kernel), _, rfl, ?_⟩
    intro x dy nx ndx ndxx
    have sm0 : Same H (upd (upd H dy (.own x)) x (.ins A.Parts dy [])) := fun b u e => by
      rw [upd_ne (ne_of_none e nx), upd_ne (ne_of_none e ndx)]
      exact e
    refine ⟨x, dy, l, us, rfl, upd_same, sm0.seq hl, fun H1 m k1 hx nm hm => ⟨rfl, ?_⟩⟩
    have s1 := Same.made nx ndx k1
    have nm0 : H m = none := sm0.free nm
    obtain ⟨g1, g2, g3⟩ := hS.grow L s1 nx nm0
    refine ⟨a, S, x, m, .parts ds, rfl, hS.same s1, ⟨dy, us, hx, hm, hd.imp fun _ _ h => h.sv (Same.sv s1)⟩, g1, g2, hb, fun H2 r k2 hS2 nr hr2 => ?_⟩
    exact q H2 r _ (g3 H2 k2) hS2 hr2
/-! ### make_map -/
theorem snocRec {α : Type} {motive : List α → Prop} (l : List α) (nil : motive []) (snoc : ∀ ps p, motive ps → motive (ps ++ [p])) : motive l := by
  have : ∀ n (l : List α), l.length = n → motive l := by
    intro n
    induction n with
    | zero => intro l h; rw [List.eq_nil_of_length_eq_zero h]; exact nil
    | succ n ih =>
      intro l h
      have hl : l ≠ [] := fun z => by rw [z] at h; cases h
      rw [← List.dropLast_concat_getLast hl]
      exact snoc _ _ (ih _ (by rw [List.length_dropLast]; omega))
  exact this _ l rfl
def Prs (A : Ads) (K : PySem.W.Frag) (H : Hp) : List V → List (Dv × Dv) → Prop
  | [], [] => True
  | v :: vs, p :: ps => (keyD p.1 = true ∧ ∃ q k u, v = .ref q ∧ SqT K H q [k, u] ∧ Has A H k p.1 ∧ Has A H u p.2) ∧ Prs A K H vs ps
  | _, _ => False
theorem Prs.len {H : Hp} : ∀ {vs : List V} {ps : List (Dv × Dv)}, Prs A K H vs ps → vs.length = ps.length
  | [], [], _ => rfl
  | _ :: _, _ :: _, h => congrArg (· + 1) (Prs.len h.2)
  | [], _ :: _, h => h.elim
  | _ :: _, [], h => h.elim
theorem Prs.at {H : Hp} : ∀ {vs : List V} {ps : List (Dv × Dv)} {i : Nat} {v : V}, Prs A K H vs ps → vs[i]? = some v → ∃ p q k u, ps[i]? = some p ∧ keyD p.1 = true ∧ v = .ref q ∧ SqT K H q [k, u] ∧ Has A H k p.1 ∧ Has A H u p.2
  | _ :: _, p :: _, 0, _, h, e => by
    simp at e
    subst e
    obtain ⟨h1, q, k, u, h2, h3, h4, h5⟩ := h.1
    exact ⟨p, q, k, u, rfl, h1, h2, h3, h4, h5⟩
  | _ :: _, _ :: _, i + 1, _, h, e => by
    simp at e
    obtain ⟨p, r⟩ := Prs.at h.2 e
    exact ⟨p, by simpa using r⟩
  | [], _ :: _, _, _, h, _ => h.elim
  | _ :: _, [], _, _, h, _ => h.elim
  | [], [], _, _, _, e => by simp at e
def putAll (ps : List (Dv × Dv)) : List (Dv × Dv) := ps.foldl (fun es p => putE es p.1 p.2) []
theorem putAll_snoc (ps : List (Dv × Dv)) (p : Dv × Dv) : putAll (ps ++ [p]) = putE (putAll ps) p.1 p.2 := by
  unfold putAll
  rw [List.foldl_append]
  rfl
theorem putAll_nd (ps : List (Dv × Dv)) : ((putAll ps).map Prod.fst).Nodup ∧ (putAll ps).length ≤ ps.length := by
  induction ps using My.snocRec with
  | nil => exact ⟨List.nodup_nil, Nat.le_refl _⟩
  | snoc ps p ih =>
    rw [putAll_snoc]
    exact ⟨putE_nd ih.1, by have := (putE_len (es := putAll ps) (k := p.1) (v := p.2)).1; rw [List.length_append, List.length_singleton]; omega⟩
def spMMp (P : Program) (w : World) (K : PySem.W.Frag) (A : Ads) : Sp := fun vs H Q _ => ∃ (a : Sa) (S : St) (l : Addr) (us : List V) (ps : List (Dv × Dv)), vs = [.ref a.s, .ref l] ∧ SM P w A H a S ∧ SqL K H l us ∧ Prs A K H us ps ∧ ps.length ≤ 1000 ∧ S.things.length < 100000 ∧ New P w A a S H (.table (putAll ps)) Q
theorem ok_make_map (L : Lib P K mg A) : FnOk P w K mg base CX0 4 L.make_map.f L.make_map.fd ["store", "pairs"] (spMMp P w K A) := by
  have G_Table_init : FnOk P w K mg base CX0 1 L.Table_init.f L.Table_init.fd ["self"] (spTI P w A) := ok_Table_init L
  have G_put_entry : FnOk P w K mg base CX0 3 L.put_entry.f L.put_entry.fd ["table", "key", "value"] (spPE P w A) := ok_put_entry L
  have G_Store_make : FnOk P w K mg base CX0 3 L.Store_make.f L.Store_make.fd ["self", "thing"] (spMake P w A) := ok_Store_make L
  refine L.make_map.F.ok sc_make_map (fun vs H Q E h => ?_) (fun cdv A' outer s H vs Q E hr h => ?_)
  · obtain ⟨a, S, l, us, ps, rfl, _⟩ := h
    rfl
  · obtain ⟨a, S, l, us, ps, rfl, hS, hl, hp, hn, hb, q⟩ := h
    have hul := hp.len
    refine ⟨_, (pss_cons (ps_set (i := 2) sc_make_map.nd rfl (.inl rfl) (pe_make0 L.Table_init.m G_Table_init (hr.mono (by omega)) (by rfl) L.c_Table.g L.Table_init.b .nil pass0))
      (pss_cons (ps_for PassesOwn.never rfl (pi_list (pv 1)) (pg_tup (by rfl) (pgs_cons (pg_name (i := 3) sc_make_map.nd rfl (.inl rfl)) (pgs_cons (pg_name (i := 4) sc_make_map.nd rfl (.inl rfl)) pgs_nil)))
        (pss_one (ps_expr (pe_call G_put_entry (hr.mono (by omega)) (by rfl) L.put_entry.g L.put_entry.F.kp L.put_entry.b .nil pass0 (pa_cons (pv 2) (pa_cons (pv 3) (pa_cons (pv 4) pa_nil)))))))
      (pss_one (ps_ret (pe_meth (pv 0) L.c_Store.cl L.Store_make.m G_Store_make (hr.mono (by omega)) L.Store_make.b .nil pass0 (pa_cons (pv 2) pa_nil)))))), ?_⟩
    intro x dx nx ndx ndxx
    have sm0 : Same H (upd (upd H dx (.own x)) x (.ins A.Table dx [])) := fun b u e => by
      rw [upd_ne (ne_of_none e nx), upd_ne (ne_of_none e ndx)]
      exact e
    refine ⟨x, dx, rfl, upd_same, fun H1 m k1 nm hT => ⟨rfl, ?_⟩⟩
    have s1 := Same.made nx ndx k1
    have nm0 : H m = none := sm0.free nm
    refine ⟨_, rfl, l, rfl, ⟨_, s1.seq hl⟩, for_list (K := K) (a := l) (xs := us) (fun i σ H' => ∃ (y3 y4 : Option V) (ents : List Ent), σ = [some (.ref a.s), some (.ref l), some (.ref x), y3, y4] ∧ Same H H' ∧ TblAt P w A H' x m ents ∧ Ents A H' ents (putAll (ps.take i))) ⟨none, none, [], rfl, s1, hT, trivial⟩ (fun i σ H' _ h => by obtain ⟨_, _, _, _, s', _⟩ := h; exact s'.seq hl) ?_ ?_⟩
    · rintro i v σ H2 hv ⟨y3, y4, ents, rfl, s2, hT2, hE2⟩
      obtain ⟨p, qd, kv, uv, ep, hk, rfl, ht, hk1, hu1⟩ := hp.at hv
      have hi : i < ps.length := (List.getElem?_eq_some_iff.mp ep).1
      refine ⟨qd, _, rfl, sqt_same s2 ht, rfl, _, _, rfl, _, _, rfl, rfl, ?_⟩
      have hlen : (putAll (ps.take i)).length < 1000 := by
        have h1 := (putAll_nd (ps.take i)).2
        rw [List.length_take] at h1
        omega
      refine ⟨_, rfl, _, rfl, _, rfl, x, m, kv, uv, p.1, p.2, ents, _, rfl, hT2, hE2, hk1.sv (Same.sv s2), hk, hu1.sv (Same.sv s2), hlen, fun H3 ents3 k3 hT3 hE3 => ⟨_, _, ents3, rfl, fun b u e => k3 _ _ (s2 _ _ e) (ne_of_none e nm0), hT3, ?_⟩⟩
      rw [List.take_add_one, ep]
      show Ents A H3 ents3 (putAll (ps.take i ++ [p]))
      rw [putAll_snoc]
      exact hE3
    · rintro σ H2 ⟨y3, y4, ents, rfl, s2, hT2, hE2⟩
      rw [hul, List.take_length] at hE2
      obtain ⟨dsx, h1⟩ := hS.s_
      obtain ⟨g1, g2, g3⟩ := hS.grow L s2 nx nm0
      refine ⟨_, rfl, a.s, dsx, _, rfl, s2 _ _ h1, st_no _ _ _ _ (by decide +kernel) (by decide +kernel) (by decide +kernel) (by decide +kernel), _, rfl, ?_⟩
      refine ⟨a, S, x, m, .table (putAll ps), rfl, hS.same s2, ⟨ents, hT2, hE2, (putAll_nd ps).1, by have := (putAll_nd ps).2; omega⟩, g1, g2, hb, fun H3 r k3 hS3 nr hr3 => ?_⟩
      exact q H3 r _ (g3 H3 k3) hS3 hr3
/-! ### next_of -/
end
end My
namespace My
open PySem L2 SX XT XS XE XD XL
open C8 (pss_cut tCut cutS_slice pe_gc)
theorem sqt_keep {K : PySem.W.Frag} {H H' : Hp} {p r : Addr} {xs ys : List V} (hk : Keep p H H') (hp : H p = some (.lst ys)) (h : SqT K H r xs) : SqT K H' r xs := by
  rcases h with (h | ⟨ob, h⟩) | h
  · exact .inl (.inl (hk _ _ h fun z => by rw [z, hp] at h; cases h))
  · exact .inl (.inr ⟨ob, hk _ _ h fun z => by rw [z, hp] at h; cases h⟩)
  · exact .inr h
variable {P : Program} {w : World} {K : PySem.W.Frag} {mg : Str → Option Value} {base : Heap} {A : Ads}
def StL (K : PySem.W.Frag) (H : Hp) (a p : Addr) (ns : List Int) : Prop := ∃ x k : Int, H p = some (.lst [.int x, .int k, .ref a]) ∧ 0 ≤ k ∧ SqL K H a (ns.map V.int)
theorem sql_keep {H H' : Hp} {a p : Addr} {x k : Int} {ns : List Int} (hk : Keep p H H') (hp : H p = some (.lst [.int x, .int k, .ref a])) (h : SqL K H a (ns.map V.int)) : SqL K H' a (ns.map V.int) := by
  rcases h with (h | ⟨ob, h⟩) | h
  · refine .inl (.inl (hk _ _ h fun z => ?_))
    rw [z, hp] at h
    have := Option.some.inj h
    injection this with e
    match ns, e with
    | [], e => cases e
    | [_], e => simp at e
    | [_, _], e => simp at e
    | _ :: _ :: _ :: _, e => simp at e
  · refine .inl (.inr ⟨ob, hk _ _ h fun z => ?_⟩)
    rw [z, hp] at h
    cases h
  · exact .inr h
theorem StL.same {H H' : Hp} {a p : Addr} {ns : List Int} (s : Same H H') (h : StL K H a p ns) : StL K H' a p ns := by
  obtain ⟨x, k, h1, h2, h3⟩ := h
  exact ⟨x, k, s _ _ h1, h2, s.seq h3⟩
def spCell (K : PySem.W.Frag) : Sp := fun vs H Q _ => ∃ (a : Addr) (ns : List Int) (k : Int), vs = [.ref a, .int k] ∧ SqL K H a (ns.map V.int) ∧ 0 ≤ k ∧ ∀ c : Int, Q (.int c) H
theorem ok_law_cell (L : Lib P K mg A) : FnOk P w K mg base CX0 1 L.law_cell.f L.law_cell.fd ["script", "k"] (spCell K) := by
  refine L.law_cell.F.ok sc_law_cell (fun vs H Q E h => ?_) (fun cdv A' outer s H vs Q E hr h => ?_)
  · obtain ⟨a, ns, k, rfl, _⟩ := h
    rfl
  · obtain ⟨a, ns, k, rfl, hS, h0, q⟩ := h
    refine ⟨_, pss_cons (ps_if (pt_cmpR op_lt (pv 1) (pe_callB call_len_seq (by rfl) L.z_len PySem.boot_len (pa_cons (pv 0) pa_nil)) (nomark _))
        (pss_one (ps_ret (pe_ix ix_list (pv 0) (pv 1) (fun _ _ => rfl))))
        pss_nil)
      (pss_one (ps_ret pe_int)), ?_⟩
    refine ⟨_, rfl, _, rfl, a, _, rfl, .inl hS, _, _, rfl, rfl, _, rfl, ite2 (fun e => ?_) (fun e => q 0)⟩
    have e1 : k < ((ns.map V.int).length : Nat) := of_decide_eq_true e
    obtain ⟨j, rfl⟩ : ∃ j : Nat, k = (j : Int) := ⟨k.toNat, by omega⟩
    have hj : j < ns.length := by
      rw [List.length_map] at e1
      omega
    refine ⟨_, rfl, _, rfl, a, _, _, V.int ns[j], rfl, rfl, hS, atI_nat ?_, q _⟩
    rw [List.getElem?_map, List.getElem?_eq_getElem hj]
    rfl
def spBegin (K : PySem.W.Frag) : Sp := fun vs H Q _ => ∃ (a : Addr) (ns : List Int) (k : Int), vs = [.ref a, .int k] ∧ SqL K H a (ns.map V.int) ∧ 0 ≤ k ∧ ∀ H' p, H p = none → Same H H' → StL K H' a p ns → Q (.ref p) H'
theorem ok_law_begin (L : Lib P K mg A) : FnOk P w K mg base CX0 1 L.law_begin.f L.law_begin.fd ["script", "k"] (spBegin K) := by
  refine L.law_begin.F.ok sc_law_begin (fun vs H Q E h => ?_) (fun cdv A' outer s H vs Q E hr h => ?_)
  · obtain ⟨a, ns, k, rfl, _⟩ := h
    rfl
  · obtain ⟨a, ns, k, rfl, hS, h0, q⟩ := h
    refine ⟨_, pss_one (ps_ret (pe_lst (pa_cons pe_int (pa_cons (pv 1) (pa_cons (pv 0) pa_nil))))), ?_⟩
    refine ⟨_, rfl, _, rfl, (by show 3 ≤ sizeLine; decide), fun p hp => q _ p hp (same_upd hp) ⟨0, k, upd_same, h0, (same_upd hp).seq hS⟩⟩
def spDraw (K : PySem.W.Frag) : Sp := fun vs H Q _ => ∃ (a p : Addr) (ns : List Int) (many : Int), vs = [.ref p, .int many] ∧ StL K H a p ns ∧ 0 < many ∧ many.natAbs < 2 ^ 80 ∧ ∀ H' (r : Int), Keep p H H' → StL K H' a p ns → 0 ≤ r → r < many → Q (.int r) H'
theorem ok_law_draw (L : Lib P K mg A) : FnOk P w K mg base CX0 2 L.law_draw.f L.law_draw.fd ["state", "many"] (spDraw K) := by
  have GC : FnOk P w K mg base CX0 1 L.law_cell.f L.law_cell.fd ["script", "k"] (spCell K) := ok_law_cell L
  refine L.law_draw.F.ok sc_law_draw (fun vs H Q E h => ?_) (fun cdv A' outer s H vs Q E hr h => ?_)
  · obtain ⟨a, p, ns, many, rfl, _⟩ := h
    rfl
  · obtain ⟨a, p, ns, many, rfl, ⟨x, k, hp, hk, hS⟩, h0, h1, q⟩ := h
    refine ⟨_, pss_cut (ps_if (pt_cmpR op_lt (pe_ix ix_list (pv 0) pe_int (fun _ _ => rfl)) (pv 1) (nomark _))
        (pss_cons (ps_set (i := 2) sc_law_draw.nd rfl (.inl rfl) (pe_ix ix_list (pv 0) pe_int (fun _ _ => rfl)))
        (pss_cons (ps_set (i := 3) sc_law_draw.nd rfl (.inl rfl) (pe_call GC hr (by rfl) L.law_cell.g L.law_cell.F.kp L.law_cell.b .nil pass0 (pa_cons (pe_ix ix_list (pv 0) pe_int (fun _ _ => rfl)) (pa_cons (pv 2) pa_nil))))
        (pss_cons (ps_set (i := 4) sc_law_draw.nd rfl (.inl rfl) pe_int)
        (pss_cons (ps_asg (pe_op op_add (pv 2) pe_int) (pg_sub (pv 0) pe_int set_list))
        (pss_cons (ps_asg (pe_callB call_abs (by rfl) L.z_abs (by decide +kernel) (pa_cons (pv 3) pa_nil)) (pg_sub (pv 0) pe_int set_list))
        (pss_one (ps_if (pt_chain op_lt op_lt (pe_un un_neg pe_int) (pv 3) pe_int)
          (pss_cons (ps_set (i := 5) sc_law_draw.nd rfl (.inl rfl) (pe_op op_mod (pe_callTy call_int1 (by rfl) L.z_int (by decide +kernel) (pa_cons (pe_op op_add (pe_op op_mul (pv 3) pe_int) (pe_op op_mul (pe_op op_add (pv 2) pe_int) pe_int)) pa_nil)) (pv 4)))
          (pss_one (ps_asg (pe_op op_add (pe_op op_mod (pe_callTy call_int1 (by rfl) L.z_int (by decide +kernel) (pa_cons (pe_op op_add (pe_op op_add (pe_op op_mulW (pv 5) (pv 5)) (pe_op op_mul pe_int (pv 5))) (pv 2)) pa_nil)) (pv 4)) (pv 4)) (pg_sub (pv 0) pe_int set_list))))
          pss_nil)))))))
        pss_nil)
      (pss_cons (ps_set (i := 6) sc_law_draw.nd rfl (.inl rfl) (pe_op op_mod (pe_callTy call_int1 (by rfl) L.z_int (by decide +kernel) (pa_cons (pe_ix ix_list (pv 0) pe_int (fun _ _ => rfl)) pa_nil)) (pv 1)))
      (pss_cons (ps_asg (pe_op op_fdivW (pe_ix ix_list (pv 0) pe_int (fun _ _ => rfl)) (pv 1)) (pg_sub (pv 0) pe_int set_list))
      (pss_one (ps_ret (pv 6))))), ?_⟩
    let M : List (Option V) → Hp → Prop := fun σ' H' => ∃ (y2 y3 y4 y5 : Option V) (x k : Int), σ' = [some (.ref p), some (.int many), y2, y3, y4, y5, none] ∧ Keep p H H' ∧ H' p = some (.lst [.int x, .int k, .ref a]) ∧ 0 ≤ k
    refine ⟨M, ⟨_, rfl, p, _, _, _, rfl, rfl, SqL.of hp, rfl, _, rfl, _, _, rfl, rfl, _, rfl, ite2 (fun e => ?_) (fun e => ⟨none, none, none, none, x, k, rfl, fun _ _ e _ => e, hp, hk⟩)⟩, ?_⟩
    · refine ⟨_, rfl, p, _, _, _, rfl, rfl, SqL.of hp, rfl, ?_⟩
      refine ⟨_, rfl, p, _, _, _, rfl, rfl, SqL.of hp, rfl, _, rfl, a, ns, k, rfl, hS, hk, fun cell => ?_⟩
      refine ⟨_, rfl, _, _, rfl, rfl, _, rfl, p, _, _, _, rfl, rfl, hp, rfl, ?_⟩
      refine ⟨_, rfl, _, rfl, _, rfl, p, _, _, _, rfl, rfl, upd_same, rfl, ?_⟩
      have fin : ∀ (z z' : Int) (Hx : Hp), Keep p H Hx → Keep p H (upd Hx p (.lst [.int z, .int z', .ref a])) := fun z z' Hx kx b o e n => by
        rw [upd_ne n]
        exact kx b o e n
      have k0 : Keep p H H := fun _ _ e _ => e
      have kA := fin x (k + 1) H k0
      have kB := fin (if cell < 0 then -cell else cell) (k + 1) _ kA
      have eB : upd (upd H p (.lst [.int x, .int (k + 1), .ref a])) p (.lst [.int (if cell < 0 then -cell else cell), .int (k + 1), .ref a]) p = some (.lst [.int (if cell < 0 then -cell else cell), .int (k + 1), .ref a]) := upd_same
      have done : ∀ (y5 : Option V) (z : Int) (Hx : Hp), Keep p H Hx → Hx p = some (.lst [.int z, .int (k + 1), .ref a]) → M [some (.ref p), some (.int many), some (.int k), some (.int cell), some (.int 618970019642690137449562111), y5, none] Hx := fun y5 z Hx k1 e1 => ⟨_, _, _, _, z, k + 1, rfl, k1, e1, by omega⟩
      refine ⟨_, rfl, _, rfl, _, _, rfl, rfl, _, rfl, ite2 (fun e1 => ⟨_, _, rfl, rfl, _, rfl, ite2 (fun e2 => ?_) (fun _ => done none _ _ kB eB)⟩) (fun _ => ⟨_, rfl, iteF (done none _ _ kB eB)⟩)⟩
      refine ⟨_, rfl, _, _, rfl, rfl, .inr ⟨by decide, by decide⟩, _, rfl, _, _, rfl, rfl, _, _, rfl, rfl, .inr ⟨by decide, by decide⟩, _, _, rfl, rfl, .inl ⟨_, rfl, _, rfl, _, _, rfl, rfl, (by show (0 : Int) < 618970019642690137449562111; decide), ?_⟩⟩
      dsimp only
      have m0 : 0 ≤ (cell * 2654435761 + (k + 1) * 6700417) % 618970019642690137449562111 := Int.emod_nonneg _ (by decide)
      have m1 : (cell * 2654435761 + (k + 1) * 6700417) % 618970019642690137449562111 < 618970019642690137449562111 := Int.emod_lt_of_pos _ (by decide)
      generalize (cell * 2654435761 + (k + 1) * 6700417) % 618970019642690137449562111 = mx at m0 m1 ⊢
      have mb : mx.natAbs < 2 ^ 90 := by
        have : (2 : Nat) ^ 90 = 1237940039285380274899124224 := by decide
        omega
      refine ⟨_, rfl, _, rfl, _, _, rfl, rfl, wide_mul mb mb (by decide) (by decide) (by decide), _, rfl, _, _, rfl, rfl, .inl ⟨by decide, by decide⟩, _, _, rfl, rfl, _, rfl, _, _, rfl, rfl, .inl ⟨_, rfl, _, rfl, _, _, rfl, rfl, (by show (0 : Int) < 618970019642690137449562111; decide), _, rfl, _, _, rfl, rfl, _, rfl, p, _, _, _, rfl, rfl, eB, rfl, ?_⟩⟩
      exact done _ _ _ (fin _ _ _ kB) upd_same
    rintro σ' H' ⟨y2, y3, y4, y5, x', k', rfl, k1, hp', hk'⟩
    refine ⟨_, rfl, p, _, _, _, rfl, rfl, SqL.of hp', rfl, .inl ⟨_, rfl, _, rfl, _, _, rfl, rfl, h0, ?_⟩⟩
    refine ⟨_, rfl, p, _, _, _, rfl, rfl, SqL.of hp', rfl, _, rfl, _, _, rfl, rfl, wide_div h0 h1 (by decide) (by decide), _, rfl, p, _, _, _, rfl, rfl, hp', rfl, ?_⟩
    have k2 : Keep p H (upd H' p (.lst [.int (x' / many), .int k', .ref a])) := fun b o e n => by
      rw [upd_ne n]
      exact k1 b o e n
    exact ⟨_, rfl, q _ _ k2 ⟨_, k', upd_same, hk', sql_keep k2 hp hS⟩ (Int.emod_nonneg _ (by omega)) (Int.emod_lt_of_pos _ h0)⟩
section
variable {P : Program} {w : World} {K : PySem.W.Frag} {mg : Str → Option Value} {base : Heap} {A : Ads}
def spPick (K : PySem.W.Frag) : Sp := fun vs H Q _ => ∃ (a p r : Addr) (ns : List Int) (xs : List V), vs = [.ref p, .ref r] ∧ StL K H a p ns ∧ SqT K H r xs ∧ 0 < xs.length ∧ xs.length ≤ 100 ∧ ∀ H' v, v ∈ xs → Keep p H H' → StL K H' a p ns → Q v H'
theorem ok_law_pick (L : Lib P K mg A) : FnOk P w K mg base CX0 3 L.law_pick.f L.law_pick.fd ["state", "row"] (spPick K) := by
  have GD : FnOk P w K mg base CX0 2 L.law_draw.f L.law_draw.fd ["state", "many"] (spDraw K) := ok_law_draw L
  refine L.law_pick.F.ok sc_law_pick (fun vs H Q E h => ?_) (fun cdv A' outer s H vs Q E hr h => ?_)
  · obtain ⟨a, p, r, ns, xs, rfl, _⟩ := h
    rfl
  · obtain ⟨a, p, r, ns, xs, rfl, hst, ht, h0, h1, q⟩ := h
    refine ⟨_, pss_one (ps_ret (pe_ix ix_tup (pv 1) (pe_call GD hr (by rfl) L.law_draw.g L.law_draw.F.kp L.law_draw.b .nil pass0 (pa_cons (pv 0) (pa_cons (pe_callB call_len_seq (by rfl) L.z_len PySem.boot_len (pa_cons (pv 1) pa_nil)) pa_nil))) (fun _ _ => rfl))), ?_⟩
    refine ⟨_, rfl, _, rfl, _, rfl, r, _, rfl, .inr ht, a, p, ns, _, rfl, hst, by omega, by omega, fun H' i k1 st i0 i1 => ?_⟩
    obtain ⟨j, rfl⟩ : ∃ j : Nat, i = (j : Int) := ⟨i.toNat, by omega⟩
    have hj : j < xs.length := by omega
    obtain ⟨x, k, hp, _⟩ := hst
    exact ⟨r, xs, _, xs[j], rfl, rfl, sqt_keep k1 hp ht, atI_nat (List.getElem?_eq_getElem hj), q H' _ (List.getElem_mem hj) k1 st⟩
end
end My
namespace My
open PySem L2 SX XT XS XE
open C8 (pss_cut tCut cutS_slice pe_gc)
theorem evSE (cda cc : Addr) : (supOf sx_ScriptError "ScriptError.__init__" cda cc).Ev := fun env => ⟨⟨_, by rfl⟩, by rfl, by rfl⟩
theorem bodySE (cda cc : Addr) : defBody sx_ScriptError = (supOf sx_ScriptError "ScriptError.__init__" cda cc).body := by rfl
theorem scSE : NdefX.NScope ["self", "kind", "message", "__class__"] ["self", "kind", "message"] ["__class__"] (defScope sx_ScriptError) := NdefX.nscope_by (by decide +kernel)
section
variable {P : Program} {w : World} {K : PySem.W.Frag} {mg : Str → Option Value} {base : Heap} {cE fI cda cc : Addr}
theorem lt_len {s : Str} (h : s.length ≤ 100000) : s.length ≤ sizeLine := by rw [sizeLine_eq]; omega
theorem ok_SE {dV kV doc pm ct oc : Value} {an od : Option Addr} {osl : Array (Option Value)} (lk : K.lookup fI = some ⟨oc, od, .func (PySem.W.ksFn "__init__" "ScriptError.__init__" (defArgs sx_ScriptError) (defBody sx_ScriptError) (defScope sx_ScriptError) dV kV doc pm an (.ref cda) ct cc), osl⟩)
    (hcd : PySem.W.codeIn K (.ref cda) "ScriptError.__init__" = true) (T : Exn P K mg cE fI "kind" "message") (U : Sup P K mg cda cc cE cE) :
    FnOk P w K mg base CX0 1 fI (PySem.W.ksFn "__init__" "ScriptError.__init__" (defArgs sx_ScriptError) (defBody sx_ScriptError) (defScope sx_ScriptError) dV kV doc pm an (.ref cda) ct cc) ["self", "kind", "message"] (spTwo cE "kind" "message") := by
  refine fn_super (D := cE) (F := supOf sx_ScriptError "ScriptError.__init__" cda cc) lk hcd scSE rfl rfl (show (defScope sx_ScriptError).names.lookup ("super" : Str) = some .globalImplicit by decide +kernel) (evSE cda cc) (fun vs H Q E h => ?_) (fun A outer s H vs Q E hr h => ?_)
  · obtain ⟨a, v1, v2, rfl, _⟩ := h
    rfl
  · obtain ⟨a, v1, v2, rfl, ha, ⟨k1, rfl, z1⟩, ⟨k2, rfl, z2⟩, q⟩ := h
    refine ⟨a, cE, _, _, rfl, ha, T.oex, U, pa_cons (pe_joined (.cons (pe_fmt (pv 1)) (.cons pe_str (.cons (pe_fmt (pv 2)) .nil)))) pa_nil, pss_cons (ps_ost (pv 0) (pv 1)) (pss_one (ps_ost (pv 0) (pv 2))), ?_⟩
    have l0 : (Str.empty : Str).length = 0 := by decide +kernel
    have l2 : ((": " : Str)).length = 2 := by decide +kernel
    refine ⟨_, rfl, .inl ⟨k1, rfl, lt_len z1, k1, rfl, ?_, ?_⟩⟩
    · rw [Str.length_append, l0, sizeLine_eq]
      omega
    · refine ⟨_, rfl, ?_, _, rfl, .inl ⟨k2, rfl, lt_len z2, k2, rfl, ?_, ?_⟩⟩
      · rw [Str.length_append, Str.length_append, l0, l2, sizeLine_eq]
        omega
      · rw [Str.length_append, Str.length_append, Str.length_append, l0, l2, sizeLine_eq]
        omega
      · refine ⟨by show 1 ≤ 1000; omega, ha, ?_⟩
        refine ⟨_, rfl, _, rfl, a, cE, rfl, T.oex, T.n1, .inl ⟨ha, fun d hd hne => ?_⟩⟩
        refine ⟨_, rfl, _, rfl, a, cE, rfl, T.oex, T.n2, .inr ⟨d, [("kind", .str k1)], upd_same, ?_, (by show 1 ≤ 900; omega), ?_⟩⟩
        · rw [upd_ne hne]
          exact upd_same
        · exact q d hd hne
end
end My
namespace My
open PySem L2 SX XT XS XE XD XL
open C8 (pss_cut tCut cutS_slice pe_gc)
def kn : Nat → Str := fun n => if n = 0 then "null" else if n = 1 then "boolean" else if n = 2 then "integer" else if n = 3 then "text" else if n = 4 then "function" else if n = 5 then "list" else if n = 6 then "map" else if n = 7 then "instance" else "class"
def kcT : Option Th → Nat
  | some (.parts _) => 5
  | some (.table _) => 6
  | some (.inst _ _) => 7
  | some (.kin _ _ _) => 8
  | _ => 4
def kc (S : St) : Dv → Nat
  | .non => 0
  | .bl _ => 1
  | .int _ => 2
  | .str _ => 3
  | .bi _ => 4
  | .obj n => kcT S.things[n]?
theorem kind_kn (S : St) (d : Dv) : kindD S d = kn (kc S d) ∧ kc S d < 9 := by
  cases d with
  | obj n =>
    show (match S.things[n]? with
      | some d => kindT d
      | none => "function") = kn (kcT S.things[n]?) ∧ kcT S.things[n]? < 9
    cases S.things[n]? with
    | none => exact ⟨rfl, by simp [kcT]⟩
    | some t => cases t <;> exact ⟨rfl, by simp [kcT]⟩
  | _ => exact ⟨rfl, by simp [kc]⟩
theorem kn_list : ∀ n, n < 9 → decide (V.str (kn n) = V.str "list") = decide (n = 5) := by decide +kernel
theorem kn_text : ∀ n, n < 9 → decide (V.str (kn n) = V.str "text") = decide (n = 3) := by decide +kernel
theorem kn_map : ∀ n, n < 9 → decide (V.str (kn n) = V.str "map") = decide (n = 6) := by decide +kernel
theorem kn_len : ∀ n, n < 9 → (("cannot go through " : Str) ++ kn n).length ≤ 100000 ∧ (kn n).length ≤ 100000 := by decide +kernel
theorem kn_msg : ∀ n, n < 9 → (Str.empty ++ ("cannot go through " : Str)) ++ kn n = ("cannot go through " : Str) ++ kn n := by decide +kernel
theorem kc5 {S : St} {d : Dv} (h : kc S d = 5) : ∃ n ds, d = .obj n ∧ S.things[n]? = some (.parts ds) := by
  cases d with
  | obj n =>
    have h : kcT S.things[n]? = 5 := h
    cases e : S.things[n]? with
    | none => rw [e] at h; cases h
    | some t =>
      rw [e] at h
      cases t <;> first | exact ⟨n, _, rfl, e⟩ | (cases h; done)
  | _ => cases h
theorem kc6 {S : St} {d : Dv} (h : kc S d = 6) : ∃ n es, d = .obj n ∧ S.things[n]? = some (.table es) := by
  cases d with
  | obj n =>
    have h : kcT S.things[n]? = 6 := h
    cases e : S.things[n]? with
    | none => rw [e] at h; cases h
    | some t =>
      rw [e] at h
      cases t <;> first | exact ⟨n, _, rfl, e⟩ | (cases h; done)
  | _ => cases h
theorem kc3 {S : St} {d : Dv} (h : kc S d = 3) : ∃ x, d = .str x := by
  cases d with
  | obj n =>
    have h : kcT S.things[n]? = 3 := h
    cases e : S.things[n]? with
    | none => rw [e] at h; cases h
    | some t => rw [e] at h; cases t <;> cases h
  | str x => exact ⟨x, rfl⟩
  | _ => cases h
end My
namespace My
open PySem L2 SX XT XS XE XD XL
section
variable {X : Cx}
/-- x not in t, t a tuple of data -/
def rNotInT (K : PySem.W.Frag) : R2 := fun x y H Q => ∃ d ds, Dp K H x d ∧ Dp K H y (.tuple ds) ∧ SeqAt.shaped d = true ∧ SeqAt.shaped (.tuple ds) = true ∧ Q (.bl (!ds.any fun z => PyData.eqv z d)) H
theorem op_notInT (hu : X.A.units + 65 < cLine) : OpR X (compareOp .NotIn) (rNotInT X.K) := by
  intro pins s σ H x y v u Q I rx ry h
  obtain ⟨d, ds, hd, he, sd, se, q⟩ := h
  obtain ⟨as, r1⟩ := Dp.reads I d x v hd rx
  obtain ⟨bs, r2⟩ := Dp.reads I (.tuple ds) y u he ry
  exact SeqAt.notIn_tuple_reads r2 r1 (SeqAt.canLay_of_shaped se) (SeqAt.canLay_of_shaped sd) (PyProof.Rows.room_in_shaped sd hu) ⟨.bl _, H, I, rfl, q⟩
end
end My

namespace My
open PySem L2
theorem units65 {k : Nat} {A : Around} (r : Room k A) : A.units + 65 < cLine := by have := r.un; omega
end My
namespace My
open PySem L2 SX XT XS XE XD XL
open C8 (pss_cut tCut cutS_slice pe_gc)
theorem emp_app (x : Str) : Str.empty ++ x = x := by
  cases x with
  | mk a =>
    show Str.mk (#[] ++ a) = Str.mk a
    rw [Array.empty_append]
theorem lt5 {x : Str} (h : x.length ≤ 100000) : x.length ≤ sizeLine := Nat.le_trans h (by decide)
def msgO (v k1 k2 : Str) : Str := ("cannot " : Str) ++ v ++ (" " : Str) ++ k1 ++ (" and " : Str) ++ k2
theorem msgO_len {v k1 k2 : Str} (h : v.length ≤ 100) (h1 : k1.length ≤ 100) (h2 : k2.length ≤ 100) : (msgO v k1 k2).length ≤ 1000 := by
  unfold msgO
  have l1 : (("cannot " : Str)).length = 7 := by decide +kernel
  have l2 : ((" " : Str)).length = 1 := by decide +kernel
  have l3 : ((" and " : Str)).length = 5 := by decide +kernel
  simp only [Str.length_append, l1, l2, l3]
  omega
section
variable {P : Program} {w : World} {K : PySem.W.Frag} {mg : Str → Option Value} {base : Heap} {A : Ads}
def spKs (P : Program) (w : World) (A : Ads) : Sp := fun vs H Q _ => ∃ (a : Sa) (S : St) (v1 v2 : V) (d1 d2 : Dv), vs = [.ref a.s, v1, v2] ∧ SM P w A H a S ∧ Has A H v1 d1 ∧ Has A H v2 d2 ∧ okV S d1 ∧ okV S d2 ∧ ∀ p, H p = none → Q (.ref p) (upd H p (.tup [.str (kindD S d1), .str (kindD S d2)]))
theorem ok_kinds_of (L : Lib P K mg A) : FnOk P w K mg base CX0 3 L.kinds_of.f L.kinds_of.fd ["store", "x", "y"] (spKs P w A) := by
  have G_kind_of : FnOk P w K mg base CX0 2 L.kind_of.f L.kind_of.fd ["store", "value"] (spKO P w A) := ok_kind_of L
  refine L.kinds_of.F.ok sc_kinds_of (fun vs H Q E h => ?_) (fun cdv A' outer s H vs Q E hr h => ?_)
  · obtain ⟨a, S, v1, v2, d1, d2, rfl, _⟩ := h
    rfl
  · obtain ⟨a, S, v1, v2, d1, d2, rfl, hS, h1, h2, o1, o2, q⟩ := h
    refine ⟨_, (pss_one (ps_ret (pe_tup (pa_cons (pe_call G_kind_of (hr.mono (by omega)) (by rfl) L.kind_of.g L.kind_of.F.kp L.kind_of.b .nil pass0 (pa_cons (pv 0) (pa_cons (pv 1) pa_nil))) (pa_cons (pe_call G_kind_of (hr.mono (by omega)) (by rfl) L.kind_of.g L.kind_of.F.kp L.kind_of.b .nil pass0 (pa_cons (pv 0) (pa_cons (pv 2) pa_nil))) pa_nil))))), ?_⟩
    exact ⟨_, rfl, _, rfl, a, S, v1, d1, rfl, hS, h1, o1, _, rfl, _, rfl, a, S, v2, d2, rfl, hS, h2, o2, (by show 2 ≤ sizeLine; decide), fun p hp => q p hp⟩
def spRO (A : Ads) (K : PySem.W.Frag) : Sp := fun vs H Q E => ∃ (v : Str) (p : Addr) (k1 k2 : Str), vs = [.str v, .ref p] ∧ v.length ≤ 100 ∧ k1.length ≤ 100 ∧ k2.length ≤ 100 ∧ SqT K H p [.str k1, .str k2] ∧ Err E A.ScriptError H "KindError" (msgO v k1 k2)
theorem ok_refuse_operands (L : Lib P K mg A) : FnOk P w K mg base (L2.CX P w) 3 L.refuse_operands.f L.refuse_operands.fd ["verb", "kinds"] (spRO A K) := by
  refine L.refuse_operands.F.okX sc_refuse_operands (fun vs H Q E h => ?_) (fun cdv A' outer s H vs Q E hr h => ?_)
  · obtain ⟨v, p, k1, k2, rfl, _⟩ := h
    rfl
  · obtain ⟨v, p, k1, k2, rfl, hv, hk1, hk2, hp, q⟩ := h
    refine ⟨_, (pss_one (ps_raise2 rfl L.x_ScriptError.T (L.x_ScriptError.F _ _) (hr.mono (by omega)) (takes_of rfl rfl rfl rfl) L.x_ScriptError.b (by rfl) L.x_ScriptError.g (pa_cons pe_str (pa_cons (pe_joined (.cons pe_str (.cons (pe_fmt (pv 0)) (.cons pe_str (.cons (pe_fmt (pe_ix ix_tup (pv 1) pe_int (fun _ _ => rfl))) (.cons pe_str (.cons (pe_fmt (pe_ix ix_tup (pv 1) pe_int (fun _ _ => rfl))) .nil))))))) pa_nil)))), ?_⟩
    have l1 : (("cannot " : Str)).length = 7 := by decide +kernel
    have l2 : ((" " : Str)).length = 1 := by decide +kernel
    have l3 : ((" and " : Str)).length = 5 := by decide +kernel
    have bd : ∀ n : Nat, n ≤ 100000 → n ≤ sizeLine := fun n h => Nat.le_trans h (by decide)
    refine ⟨_, rfl, lt5 (by decide +kernel), _, rfl, .inl ⟨_, rfl, bd _ (by omega), _, rfl, ?_, _, rfl, ?_, ?_⟩⟩
    · rw [emp_app, Str.length_append, l1]
      exact bd _ (by omega)
    · rw [emp_app, Str.length_append, Str.length_append, l1, l2]
      exact bd _ (by omega)
    refine ⟨_, rfl, p, _, _, .str k1, rfl, rfl, hp, atI_nat (j := 0) rfl, .inl ⟨_, rfl, bd _ (by omega), _, rfl, ?_, _, rfl, ?_, ?_⟩⟩
    · rw [emp_app, Str.length_append, Str.length_append, Str.length_append, l1, l2]
      exact bd _ (by omega)
    · rw [emp_app, Str.length_append, Str.length_append, Str.length_append, Str.length_append, l1, l2, l3]
      exact bd _ (by omega)
    refine ⟨_, rfl, p, _, _, .str k2, rfl, rfl, hp, atI_nat (j := 1) rfl, .inl ⟨_, rfl, bd _ (by omega), _, rfl, ?_, ?_⟩⟩
    · rw [emp_app, Str.length_append, Str.length_append, Str.length_append, Str.length_append, Str.length_append, l1, l2, l3]
      exact bd _ (by omega)
    · rw [emp_app]
      exact made2 (by decide +kernel) (Nat.le_trans (msgO_len hv hk1 hk2) (by decide)) q
end
end My
namespace My
open PySem L2 SX XT XS XE XD XL
open C8 (pss_cut tCut cutS_slice pe_gc)
def kk2 (a b : Nat) : PyData := .tuple [.str (kn a), .str (kn b)]
theorem kk_int : ∀ a, a < 9 → ∀ b, b < 9 → PyData.eqv (kk2 a b) (.tuple [.str "integer", .str "integer"]) = decide (a = 2 ∧ b = 2) := by decide +kernel
theorem kk_text : ∀ a, a < 9 → ∀ b, b < 9 → PyData.eqv (kk2 a b) (.tuple [.str "text", .str "text"]) = decide (a = 3 ∧ b = 3) := by decide +kernel
theorem kk_list : ∀ a, a < 9 → ∀ b, b < 9 → PyData.eqv (kk2 a b) (.tuple [.str "list", .str "list"]) = decide (a = 5 ∧ b = 5) := by decide +kernel
theorem kk_ord : ∀ a, a < 9 → ∀ b, b < 9 → (!([.tuple [.str "integer", .str "integer"], .tuple [.str "text", .str "text"]] : List PyData).any fun z => PyData.eqv z (kk2 a b)) = !decide (a = 2 ∧ b = 2 ∨ a = 3 ∧ b = 3) := by decide +kernel
theorem kk_shape : ∀ a, a < 9 → ∀ b, b < 9 → SeqAt.shaped (kk2 a b) = true := by decide +kernel
theorem kn_short : ∀ a, a < 9 → (kn a).length ≤ 100 := by decide +kernel
theorem kc2 {S : St} {d : Dv} (h : kc S d = 2) : ∃ i, d = .int i := by
  cases d with
  | obj n =>
    have h : kcT S.things[n]? = 2 := h
    cases e : S.things[n]? with
    | none => rw [e] at h; cases h
    | some t => rw [e] at h; cases t <;> cases h
  | int x => exact ⟨x, rfl⟩
  | _ => cases h
section
variable {P : Program} {w : World} {K : PySem.W.Frag} {mg : Str → Option Value} {base : Heap} {A : Ads}
theorem kk_dp {H : Hp} {p : Addr} {a b : Nat} (h : H p = some (.tup [.str (kn a), .str (kn b)])) : Dp K H (.ref p) (kk2 a b) := .tup (.inl (.inl h)) (.cons (.str _) (.cons (.str _) .nil))
theorem ss_dp {H : Hp} {p : Addr} {x y : Str} (h : H p = some (.tup [.str x, .str y])) : Dp K H (.ref p) (.tuple [.str x, .str y]) := .tup (.inl (.inl h)) (.cons (.str _) (.cons (.str _) .nil))
def spCSX (A : Ads) : Sp := fun vs H Q E => ∃ i : Int, vs = [.int i] ∧ (i ≤ 1000 → Q .non H) ∧ (1000 < i → Err E A.ScriptError H "SizeError" "too large")
theorem ok_check_sizeX (L : Lib P K mg A) : FnOk P w K mg base (L2.CX P w) 3 L.check_size.f L.check_size.fd ["size"] (spCSX A) := by
  refine L.check_size.F.okX sc_check_size (fun vs H Q E h => ?_) (fun cdv A' outer s H vs Q E hr h => ?_)
  · obtain ⟨i, rfl, _⟩ := h
    rfl
  · obtain ⟨i, rfl, q1, q2⟩ := h
    refine ⟨_, (pss_one (ps_if (pt_cmpR op_gt (pv 0) (pe_glob (v := .int 1000) (by rfl) L.v_MOST_HELD.choose_spec ⟨_, rfl⟩) (nomark _))
        (pss_one (ps_raise2 rfl L.x_ScriptError.T (L.x_ScriptError.F _ _) (hr.mono (by omega)) (takes_of rfl rfl rfl rfl) L.x_ScriptError.b (by rfl) L.x_ScriptError.g (pa_cons pe_str (pa_cons pe_str pa_nil))))
        pss_nil)), ?_⟩
    refine ⟨_, rfl, _, _, rfl, rfl, _, rfl, ite_or (fun e => ?_) fun e => ?_⟩
    · exact made2 (by decide +kernel) (by decide +kernel) (q2 (of_decide_eq_true e))
    · exact q1 (by have := of_decide_eq_false e; omega)
/-- a new list, or too large -/
def NewOr (P : Program) (w : World) (A : Ads) (a : Sa) (S : St) (H : Hp) (ds : List Dv) (Q : VK) (E : XK) : Prop :=
  (ds.length ≤ 1000 → New P w A a S H (.parts ds) Q) ∧ (1000 < ds.length → ∀ H', Same H H' → Err E A.ScriptError H' "SizeError" "too large")
theorem New.same {a : Sa} {S : St} {H H' : Hp} {d : Th} {Q : VK} (s : Same H H') (n : New P w A a S H d Q) : New P w A a S H' d Q := fun H2 r a' ev sm hr => n H2 r a' ((Ev.same s).trans ev) sm hr
theorem NewOr.same {a : Sa} {S : St} {H H' : Hp} {ds : List Dv} {Q : VK} {E : XK} (s : Same H H') (n : NewOr P w A a S H ds Q E) : NewOr P w A a S H' ds Q E := ⟨fun h => (n.1 h).same s, fun h H2 s2 => n.2 h H2 (s.trans s2)⟩
def spMLX (P : Program) (w : World) (K : PySem.W.Frag) (A : Ads) : Sp := fun vs H Q E => ∃ (a : Sa) (S : St) (l : Addr) (us : List V) (ds : List Dv), vs = [.ref a.s, .ref l] ∧ SM P w A H a S ∧ SqL K H l us ∧ Hs A H us ds ∧ S.things.length < 100000 ∧ NewOr P w A a S H ds Q E
theorem ok_make_listX (L : Lib P K mg A) : FnOk P w K mg base (L2.CX P w) 5 L.make_list.f L.make_list.fd ["store", "values"] (spMLX P w K A) := by
  have G_check_sizeX : FnOk P w K mg base (L2.CX P w) 3 L.check_size.f L.check_size.fd ["size"] (spCSX A) := ok_check_sizeX L
  have G_Store_make : FnOk P w K mg base CX0 3 L.Store_make.f L.Store_make.fd ["self", "thing"] (spMake P w A) := ok_Store_make L
  have G_Parts_init : FnOk P w K mg base CX0 1 L.Parts_init.f L.Parts_init.fd ["self", "held"] (spHI A.Parts "held" K) := ok_Parts_init L
  refine L.make_list.F.okX sc_make_list (fun vs H Q E h => ?_) (fun cdv A' outer s H vs Q E hr h => ?_)
  · obtain ⟨a, S, l, us, ds, rfl, _⟩ := h
    rfl
  · obtain ⟨a, S, l, us, ds, rfl, hS, hl, hd, hb, qn, qe⟩ := h
    have hul := hd.len
    refine ⟨_, (pss_cons (ps_expr (pe_callS G_check_sizeX (hr.mono (by omega)) (by rfl) L.check_size.g L.check_size.F.kp L.check_size.b (fun σ => passAt (takes_of rfl rfl rfl rfl) σ) (pa_cons (pe_callB call_len_seq (by rfl) L.z_len PySem.boot_len (pa_cons (pv 1) pa_nil)) pa_nil)))
      (pss_one (ps_ret (pe_meth (pv 0) L.c_Store.cl L.Store_make.m G_Store_make (hr.mono (by omega)) L.Store_make.b .nil pass0 (pa_cons (pe_make L.Parts_init.m G_Parts_init (hr.mono (by omega)) (by rfl) L.c_Parts.g L.Parts_init.b .nil pass0 (pa_cons (pv 1) pa_nil)) pa_nil))))), ?_⟩
    refine ⟨_, rfl, l, us, rfl, .inl hl, _, rfl, fun hn => ?_, fun hn => ?_⟩
    · obtain ⟨dx, h1⟩ := hS.s_
      refine ⟨_, rfl, a.s, dx, _, rfl, h1, st_no _ _ _ _ (by decide +kernel) (by decide +kernel) (by decide +kernel) (by decide +kernel), _, rfl, ?_⟩
      intro x dy nx ndx ndxx
      have sm0 : Same H (upd (upd H dy (.own x)) x (.ins A.Parts dy [])) := fun b u e => by
        rw [upd_ne (ne_of_none e nx), upd_ne (ne_of_none e ndx)]
        exact e
      refine ⟨x, dy, l, us, rfl, upd_same, sm0.seq hl, fun H1 m k1 hx nm hm => ⟨rfl, ?_⟩⟩
      have s1 := Same.made nx ndx k1
      have nm0 : H m = none := sm0.free nm
      obtain ⟨g1, g2, g3⟩ := hS.grow L s1 nx nm0
      refine ⟨a, S, x, m, .parts ds, rfl, hS.same s1, ⟨dy, us, hx, hm, hd.imp fun _ _ h => h.sv (Same.sv s1)⟩, g1, g2, hb, fun H2 r k2 hS2 nr hr2 => ?_⟩
      exact qn (by omega) H2 r _ (g3 H2 k2) hS2 hr2
    · exact qe (by omega) H fun _ _ e => e
/-- values whose kinds are told -/
structure Two_ (P : Program) (w : World) (A : Ads) (H : Hp) (a : Sa) (S : St) (v1 v2 : V) (d1 d2 : Dv) : Prop where
  sm : SM P w A H a S
  h1 : Has A H v1 d1
  h2 : Has A H v2 d2
  o1 : okV S d1
  o2 : okV S d2
theorem Two_.same {H H' : Hp} {a : Sa} {S : St} {v1 v2 : V} {d1 d2 : Dv} (t : Two_ P w A H a S v1 v2 d1 d2) (s : Same H H') : Two_ P w A H' a S v1 v2 d1 d2 := ⟨t.sm.same s, t.h1.sv (Same.sv s), t.h2.sv (Same.sv s), t.o1, t.o2⟩
def addQ (P : Program) (w : World) (A : Ads) (a : Sa) (S : St) (H : Hp) (d1 d2 : Dv) (Q : VK) (E : XK) : Prop :=
  (∀ x y, d1 = .str x → d2 = .str y → x.length ≤ 1000 ∧ y.length ≤ 1000 ∧ (x.length + y.length ≤ 1000 → ∀ H', Same H H' → Q (.str (x ++ y)) H') ∧ (1000 < x.length + y.length → ∀ H', Same H H' → Err E A.ScriptError H' "SizeError" "too large")) ∧
  (∀ n1 n2 es fs, d1 = .obj n1 → d2 = .obj n2 → S.things[n1]? = some (.parts es) → S.things[n2]? = some (.parts fs) → es.length ≤ 1000 ∧ fs.length ≤ 1000 ∧ NewOr P w A a S H (es ++ fs) Q E) ∧
  (¬ (kc S d1 = 3 ∧ kc S d2 = 3) → ¬ (kc S d1 = 5 ∧ kc S d2 = 5) → ∀ H', Same H H' → Err E A.ScriptError H' "KindError" (msgO "add" (kindD S d1) (kindD S d2)))
def spAdd (P : Program) (w : World) (A : Ads) : Sp := fun vs H Q E => ∃ (a : Sa) (S : St) (v1 v2 : V) (d1 d2 : Dv), vs = [.ref a.s, v1, v2] ∧ Two_ P w A H a S v1 v2 d1 d2 ∧ ¬ (kc S d1 = 2 ∧ kc S d2 = 2) ∧ S.things.length < 100000 ∧ addQ P w A a S H d1 d2 Q E
theorem ok_add (L : Lib P K mg A) : FnOk P w K mg base (L2.CX P w) 6 L.add.f L.add.fd ["store", "x", "y"] (spAdd P w A) := by
  have G_kinds_of : FnOk P w K mg base CX0 3 L.kinds_of.f L.kinds_of.fd ["store", "x", "y"] (spKs P w A) := ok_kinds_of L
  have G_refuse_operands : FnOk P w K mg base (L2.CX P w) 3 L.refuse_operands.f L.refuse_operands.fd ["verb", "kinds"] (spRO A K) := ok_refuse_operands L
  have G_check_sizeX : FnOk P w K mg base (L2.CX P w) 3 L.check_size.f L.check_size.fd ["size"] (spCSX A) := ok_check_sizeX L
  have G_make_listX : FnOk P w K mg base (L2.CX P w) 5 L.make_list.f L.make_list.fd ["store", "values"] (spMLX P w K A) := ok_make_listX L
  have G_Store_at : FnOk P w K mg base CX0 1 L.Store_at.f L.Store_at.fd ["self", "ref"] (spAt P w A) := ok_Store_at L
  refine L.add.F.okX sc_add (fun vs H Q E h => ?_) (fun cdv A' outer s H vs Q E hr h => ?_)
  · obtain ⟨a, S, v1, v2, d1, d2, rfl, _⟩ := h
    rfl
  · obtain ⟨a, S, v1, v2, d1, d2, rfl, T, hii, hb, qt, ql, qe⟩ := h
    refine ⟨_, (pss_cons (ps_set (i := 3) sc_add.nd rfl (.inl rfl) (pe_call G_kinds_of (hr.mono (by omega)) (by rfl) L.kinds_of.g L.kinds_of.F.kp L.kinds_of.b .nil pass0 (pa_cons (pv 0) (pa_cons (pv 1) (pa_cons (pv 2) pa_nil)))))
      (pss_cons (ps_if (pt_cmpR (op_eqD (units64 hr)) (pv 3) (pe_tup (pa_cons pe_str (pa_cons pe_str pa_nil))) (nomark _))
        (pss_one ps_never)
        pss_nil)
      (pss_cons (ps_if (pt_cmpR (op_eqD (units64 hr)) (pv 3) (pe_tup (pa_cons pe_str (pa_cons pe_str pa_nil))) (nomark _))
        (pss_cons (ps_expr (pe_callS G_check_sizeX (hr.mono (by omega)) (by rfl) L.check_size.g L.check_size.F.kp L.check_size.b (fun σ => passAt (takes_of rfl rfl rfl rfl) σ) (pa_cons (pe_op op_add (pe_callB call_len_str (by rfl) L.z_len PySem.boot_len (pa_cons (pv 1) pa_nil)) (pe_callB call_len_str (by rfl) L.z_len PySem.boot_len (pa_cons (pv 2) pa_nil))) pa_nil)))
      (pss_one (ps_ret (pe_op op_add_str (pv 1) (pv 2)))))
        pss_nil)
      (pss_cons (ps_if (pt_cmpR (op_neD (units64 hr)) (pv 3) (pe_tup (pa_cons pe_str (pa_cons pe_str pa_nil))) (nomark _))
        (pss_one (ps_expr (pe_callS G_refuse_operands (hr.mono (by omega)) (by rfl) L.refuse_operands.g L.refuse_operands.F.kp L.refuse_operands.b (fun σ => passAt (takes_of rfl rfl rfl rfl) σ) (pa_cons pe_str (pa_cons (pv 3) pa_nil)))))
        pss_nil)
      (pss_one (ps_ret (pe_callS G_make_listX (hr.mono (by omega)) (by rfl) L.make_list.g L.make_list.F.kp L.make_list.b (fun σ => passAt (takes_of rfl rfl rfl rfl) σ) (pa_cons (pv 0) (pa_cons (pe_op op_cat (pe_fld (pe_meth (pv 0) L.c_Store.cl L.Store_at.m G_Store_at (hr.mono (by omega)) L.Store_at.b .nil pass0 (pa_cons (pv 1) pa_nil)) rfl) (pe_fld (pe_meth (pv 0) L.c_Store.cl L.Store_at.m G_Store_at (hr.mono (by omega)) L.Store_at.b .nil pass0 (pa_cons (pv 2) pa_nil)) rfl)) pa_nil))))))))), ?_⟩
    obtain ⟨k1, l1⟩ := kind_kn S d1
    obtain ⟨k2, l2⟩ := kind_kn S d2
    refine ⟨_, rfl, _, rfl, _, rfl, a, S, v1, v2, d1, d2, rfl, T.sm, T.h1, T.h2, T.o1, T.o2, fun p np => ?_⟩
    have s1 := same_upd (o := .tup [.str (kindD S d1), .str (kindD S d2)]) np
    have hp := upd_same (H := H) (a := p) (o := .tup [.str (kindD S d1), .str (kindD S d2)])
    generalize upd H p (.tup [.str (kindD S d1), .str (kindD S d2)]) = H1 at s1 hp
    rw [k1, k2] at hp qe
    refine ⟨_, rfl, (by show 2 ≤ sizeLine; decide), fun r nr => ?_⟩
    have s2 := same_upd (o := .tup [.str "integer", .str "integer"]) nr
    refine ⟨_, _, kk_dp (s2 _ _ hp), ss_dp upd_same, kk_shape _ l1 _ l2, by decide +kernel, _, rfl, ?_⟩
    rw [kk_int _ l1 _ l2]
    refine ifF (decide_eq_false hii) ?_
    refine ⟨_, rfl, (by show 2 ≤ sizeLine; decide), fun r2 nr2 => ?_⟩
    have s3 := same_upd (o := .tup [.str "text", .str "text"]) nr2
    have hp3 := s3 _ _ (s2 _ _ hp)
    refine ⟨_, _, kk_dp hp3, ss_dp upd_same, kk_shape _ l1 _ l2, by decide +kernel, _, rfl, ?_⟩
    rw [kk_text _ l1 _ l2]
    have s123 := (s1.trans s2).trans s3
    generalize upd (upd H1 r (.tup [.str "integer", .str "integer"])) r2 (.tup [.str "text", .str "text"]) = H3 at s123 hp3
    refine ite_or (fun e => ?_) fun e => ?_
    · obtain ⟨e1, e2⟩ := of_decide_eq_true e
      obtain ⟨x, rfl⟩ := kc3 e1
      obtain ⟨y, rfl⟩ := kc3 e2
      obtain ⟨hx, hy, q1, q2⟩ := qt x y rfl rfl
      cases T.h1
      cases T.h2
      have bd : ∀ n : Nat, n ≤ 100000 → n ≤ sizeLine := fun n h => Nat.le_trans h (by decide)
      refine ⟨_, rfl, x, rfl, bd _ (by omega), _, rfl, y, rfl, bd _ (by omega), _, _, rfl, rfl, _, rfl, fun h => ?_, fun h => ?_⟩
      · exact ⟨_, rfl, _, rfl, _, _, rfl, rfl, bd _ (by omega), q1 (by omega) _ s123⟩
      · exact q2 (by omega) _ s123
    have n3 := of_decide_eq_false e
    refine ⟨_, rfl, (by show 2 ≤ sizeLine; decide), fun r4 nr4 => ?_⟩
    have s4 := same_upd (o := .tup [.str "list", .str "list"]) nr4
    refine ⟨_, _, kk_dp (s4 _ _ hp3), ss_dp upd_same, kk_shape _ l1 _ l2, by decide +kernel, _, rfl, ?_⟩
    rw [kk_list _ l1 _ l2]
    have s14 := s123.trans s4
    have hp4 := s4 _ _ hp3
    generalize upd H3 r4 (.tup [.str "list", .str "list"]) = H4 at s14 hp4
    refine ite_or (fun e => ?_) fun e => ?_
    · have e : (!decide (kc S d1 = 5 ∧ kc S d2 = 5)) = true := e
      have n5 : ¬ (kc S d1 = 5 ∧ kc S d2 = 5) := fun h => by rw [decide_eq_true h] at e; cases e
      exact ⟨_, rfl, "add", p, _, _, rfl, by decide +kernel, kn_short _ l1, kn_short _ l2, SqT.of hp4, qe n3 n5 _ s14⟩
    · have e : (!decide (kc S d1 = 5 ∧ kc S d2 = 5)) = false := e
      have n5 : kc S d1 = 5 ∧ kc S d2 = 5 := by simpa using e
      obtain ⟨n1, es, rfl, hn1⟩ := kc5 n5.1
      obtain ⟨n2, fs, rfl, hn2⟩ := kc5 n5.2
      obtain ⟨hx, hy, q⟩ := ql n1 n2 es fs rfl rfl hn1 hn2
      have T4 := T.same s14
      obtain ⟨dsx, hs0⟩ := T4.sm.s_
      obtain ⟨x1, m1, hx1, hm1, dx1, us1, a1, a2, a3⟩ := T4.sm.get hn1
      obtain ⟨x2, m2, hx2, hm2, dx2, us2, b1, b2, b3⟩ := T4.sm.get hn2
      obtain ⟨r1, dr1, er1, hr1⟩ := id T4.h1
      obtain ⟨r2, dr2, er2, hr2⟩ := id T4.h2
      cases er1
      cases er2
      have lu1 := a3.len
      have lu2 := b3.len
      refine ⟨_, rfl, _, rfl, a.s, dsx, _, rfl, hs0, st_no _ _ _ _ (by decide +kernel) (by decide +kernel) (by decide +kernel) (by decide +kernel), _, rfl, a, S, r1, x1, n1, rfl, T4.sm, T4.h1, hx1, x1, A.Parts, dx1, _, .ref m1, rfl, a1, L.c_Parts.cl, L.n_Parts_held, lk_hit, ?_⟩
      refine ⟨_, rfl, a.s, dsx, _, rfl, hs0, st_no _ _ _ _ (by decide +kernel) (by decide +kernel) (by decide +kernel) (by decide +kernel), _, rfl, a, S, r2, x2, n2, rfl, T4.sm, T4.h2, hx2, x2, A.Parts, dx2, _, .ref m2, rfl, b1, L.c_Parts.cl, L.n_Parts_held, lk_hit, ?_⟩
      refine ⟨m1, m2, us1, us2, rfl, rfl, a2, b2, Nat.le_trans (m := 2000) (by omega) (by decide), fun l nl => ?_⟩
      have s5 := same_upd (o := .lst (us1 ++ us2)) nl
      exact ⟨a, S, l, us1 ++ us2, es ++ fs, rfl, T4.sm.same s5, SqL.of upd_same, Hs.app (a3.imp fun _ _ h => h.sv (Same.sv s5)) (b3.imp fun _ _ h => h.sv (Same.sv s5)), hb, q.same (s14.trans s5)⟩
end
end My
namespace My
open PySem L2 SX XT XS XE XD XL
open C8 (pss_cut tCut cutS_slice pe_gc)
/-- the operators that compare, those that calculate -/
def cmpS (o x y : Str) : Bool := if o = "<" then decide (x.cps.toList < y.cps.toList) else if o = "<=" then !decide (y.cps.toList < x.cps.toList) else if o = ">" then decide (y.cps.toList < x.cps.toList) else !decide (x.cps.toList < y.cps.toList)
def ordsS : List Str := ["<", "<=", ">", ">="]
def verbS : List (Str × Str) := [("-", "subtract"), ("*", "multiply"), ("/", "divide"), ("mod", "divide")]
/-- the dict of verbs -/
structure Dx (K : PySem.W.Frag) (w : World) (mg : Str → Option Value) (nm : Str) (ps : List (Str × Str)) where
  a : Addr
  g : mg nm = some (.ref a)
  d : ∀ p ∈ ps, KDct K w a p.1 (.str p.2)
section
variable {P : Program} {w : World} {K : PySem.W.Frag} {mg : Str → Option Value} {base : Heap} {A : Ads}
def spCmp (P : Program) (w : World) (A : Ads) : Sp := fun vs H Q E => ∃ (a : Sa) (S : St) (o : Str) (v1 v2 : V) (d1 d2 : Dv), vs = [.ref a.s, .str o, v1, v2] ∧ o ∈ ordsS ∧ Two_ P w A H a S v1 v2 d1 d2 ∧ ¬ (kc S d1 = 2 ∧ kc S d2 = 2) ∧
  (∀ x y, d1 = .str x → d2 = .str y → ∀ H', Same H H' → Q (.bl (cmpS o x y)) H') ∧ (¬ (kc S d1 = 3 ∧ kc S d2 = 3) → ∀ H', Same H H' → Err E A.ScriptError H' "KindError" (msgO "compare" (kindD S d1) (kindD S d2)))
theorem ok_compare (L : Lib P K mg A) : FnOk P w K mg base (L2.CX P w) 4 L.compare.f L.compare.fd ["store", "operator", "x", "y"] (spCmp P w A) := by
  have G_kinds_of : FnOk P w K mg base CX0 3 L.kinds_of.f L.kinds_of.fd ["store", "x", "y"] (spKs P w A) := ok_kinds_of L
  have G_refuse_operands : FnOk P w K mg base (L2.CX P w) 3 L.refuse_operands.f L.refuse_operands.fd ["verb", "kinds"] (spRO A K) := ok_refuse_operands L
  refine L.compare.F.okX sc_compare (fun vs H Q E h => ?_) (fun cdv A' outer s H vs Q E hr h => ?_)
  · obtain ⟨a, S, o, v1, v2, d1, d2, rfl, _⟩ := h
    rfl
  · obtain ⟨a, S, o, v1, v2, d1, d2, rfl, ho, T, hii, qt, qe⟩ := h
    refine ⟨_, (pss_cons (ps_set (i := 4) sc_compare.nd rfl (.inl rfl) (pe_call G_kinds_of (hr.mono (by omega)) (by rfl) L.kinds_of.g L.kinds_of.F.kp L.kinds_of.b .nil pass0 (pa_cons (pv 0) (pa_cons (pv 2) (pa_cons (pv 3) pa_nil)))))
      (pss_cons (ps_if (pt_cmpR (op_notInT (units65 hr)) (pv 4) (pe_tup (pa_cons (pe_tup (pa_cons pe_str (pa_cons pe_str pa_nil))) (pa_cons (pe_tup (pa_cons pe_str (pa_cons pe_str pa_nil))) pa_nil))) (by rfl))
        (pss_one (ps_expr (pe_callS G_refuse_operands (hr.mono (by omega)) (by rfl) L.refuse_operands.g L.refuse_operands.F.kp L.refuse_operands.b (fun σ => passAt (takes_of rfl rfl rfl rfl) σ) (pa_cons pe_str (pa_cons (pv 4) pa_nil)))))
        pss_nil)
      (pss_cons (ps_if (pt_cmpR op_eq (pv 1) pe_str (nomark _))
        (pss_one (ps_ret (pe_cmpR op_lt_str (pv 2) (pv 3) (nomark _))))
        pss_nil)
      (pss_cons (ps_if (pt_cmpR op_eq (pv 1) pe_str (nomark _))
        (pss_one (ps_ret (pe_cmpR op_le_str (pv 2) (pv 3) (nomark _))))
        pss_nil)
      (pss_cons (ps_if (pt_cmpR op_eq (pv 1) pe_str (nomark _))
        (pss_one (ps_ret (pe_cmpR op_gt_str (pv 2) (pv 3) (nomark _))))
        pss_nil)
      (pss_one (ps_ret (pe_cmpR op_ge_str (pv 2) (pv 3) (nomark _))))))))), ?_⟩
    obtain ⟨k1, l1⟩ := kind_kn S d1
    obtain ⟨k2, l2⟩ := kind_kn S d2
    refine ⟨_, rfl, _, rfl, _, rfl, a, S, v1, v2, d1, d2, rfl, T.sm, T.h1, T.h2, T.o1, T.o2, fun p np => ?_⟩
    have s1 := same_upd (o := .tup [.str (kindD S d1), .str (kindD S d2)]) np
    have hp := upd_same (H := H) (a := p) (o := .tup [.str (kindD S d1), .str (kindD S d2)])
    generalize upd H p (.tup [.str (kindD S d1), .str (kindD S d2)]) = H1 at s1 hp
    rw [k1, k2] at hp qe
    refine ⟨_, rfl, (by show 2 ≤ sizeLine; decide), fun r nr => ⟨(by show 2 ≤ sizeLine; decide), fun r2 nr2 => ⟨(by show 2 ≤ sizeLine; decide), fun r3 nr3 => ?_⟩⟩⟩
    have s2 := same_upd (o := .tup [.str "integer", .str "integer"]) nr
    have s3 := same_upd (o := .tup [.str "text", .str "text"]) nr2
    have s4 := same_upd (o := .tup [.ref r, .ref r2]) nr3
    have hp4 := s4 _ _ (s3 _ _ (s2 _ _ hp))
    have e1 := ss_dp (K := K) (s4 _ _ (s3 _ _ (upd_same (H := H1) (a := r) (o := .tup [.str "integer", .str "integer"]))))
    have e2 := ss_dp (K := K) (s4 _ _ (upd_same (H := upd H1 r (.tup [.str "integer", .str "integer"])) (a := r2) (o := .tup [.str "text", .str "text"])))
    have e3 : Dp K (upd (upd (upd H1 r (.tup [.str "integer", .str "integer"])) r2 (.tup [.str "text", .str "text"])) r3 (.tup [.ref r, .ref r2])) (.ref r3) (.tuple [.tuple [.str "integer", .str "integer"], .tuple [.str "text", .str "text"]]) := .tup (.inl (.inl upd_same)) (.cons e1 (.cons e2 .nil))
    have s14 := ((s1.trans s2).trans s3).trans s4
    refine ⟨_, _, kk_dp hp4, e3, kk_shape _ l1 _ l2, by decide +kernel, _, rfl, ?_⟩
    rw [kk_ord _ l1 _ l2]
    generalize upd (upd (upd H1 r (.tup [.str "integer", .str "integer"])) r2 (.tup [.str "text", .str "text"])) r3 (.tup [.ref r, .ref r2]) = H4 at s14 hp4
    refine ite_or (fun e => ?_) fun e => ?_
    · have n3 : ¬ (kc S d1 = 3 ∧ kc S d2 = 3) := fun h => by rw [decide_eq_true (.inr h)] at e; cases e
      exact ⟨_, rfl, "compare", p, _, _, rfl, by decide +kernel, kn_short _ l1, kn_short _ l2, SqT.of hp4, qe n3 _ s14⟩
    have h3 : kc S d1 = 3 ∧ kc S d2 = 3 := by
      have e : decide (kc S d1 = 2 ∧ kc S d2 = 2 ∨ kc S d1 = 3 ∧ kc S d2 = 3) = true := by
        cases h : decide (kc S d1 = 2 ∧ kc S d2 = 2 ∨ kc S d1 = 3 ∧ kc S d2 = 3) with
        | true => rfl
        | false => rw [h] at e; cases e
      rcases of_decide_eq_true e with h | h
      · exact absurd h hii
      · exact h
    obtain ⟨x, rfl⟩ := kc3 h3.1
    obtain ⟨y, rfl⟩ := kc3 h3.2
    cases T.h1
    cases T.h2
    have q' := qt x y rfl rfl _ s14
    unfold ordsS at ho
    simp only [List.mem_cons, List.not_mem_nil, or_false] at ho
    refine ⟨_, rfl, rfl, _, rfl, ?_⟩
    rcases ho with rfl | rfl | rfl | rfl
    · exact ifT (by decide +kernel) ⟨_, rfl, _, rfl, _, _, rfl, rfl, q'⟩
    · exact ifF (by decide +kernel) ⟨_, rfl, rfl, _, rfl, ifT (by decide +kernel) ⟨_, rfl, _, rfl, _, _, rfl, rfl, q'⟩⟩
    · exact ifF (by decide +kernel) ⟨_, rfl, rfl, _, rfl, ifF (by decide +kernel) ⟨_, rfl, rfl, _, rfl, ifT (by decide +kernel) ⟨_, rfl, _, rfl, _, _, rfl, rfl, q'⟩⟩⟩
    · exact ifF (by decide +kernel) ⟨_, rfl, rfl, _, rfl, ifF (by decide +kernel) ⟨_, rfl, rfl, _, rfl, ifF (by decide +kernel) ⟨_, rfl, _, rfl, _, _, rfl, rfl, q'⟩⟩⟩
def spCalc (P : Program) (w : World) (A : Ads) : Sp := fun vs H Q E => ∃ (a : Sa) (S : St) (o : Str × Str) (v1 v2 : V) (d1 d2 : Dv), vs = [.ref a.s, .str o.1, v1, v2] ∧ o ∈ verbS ∧ Two_ P w A H a S v1 v2 d1 d2 ∧ ¬ (kc S d1 = 2 ∧ kc S d2 = 2) ∧
  ∀ H', Same H H' → Err E A.ScriptError H' "KindError" (msgO o.2 (kindD S d1) (kindD S d2))
theorem verb_len : ∀ o ∈ verbS, o.2.length ≤ 100 := by decide +kernel
theorem ok_calculate (L : Lib P K mg A) (D : Dx K w mg "VERBS" verbS) : FnOk P w K mg base (L2.CX P w) 4 L.calculate.f L.calculate.fd ["store", "operator", "x", "y"] (spCalc P w A) := by
  have G_kinds_of : FnOk P w K mg base CX0 3 L.kinds_of.f L.kinds_of.fd ["store", "x", "y"] (spKs P w A) := ok_kinds_of L
  have G_refuse_operands : FnOk P w K mg base (L2.CX P w) 3 L.refuse_operands.f L.refuse_operands.fd ["verb", "kinds"] (spRO A K) := ok_refuse_operands L
  refine L.calculate.F.okX sc_calculate (fun vs H Q E h => ?_) (fun cdv A' outer s H vs Q E hr h => ?_)
  · obtain ⟨a, S, o, v1, v2, d1, d2, rfl, _⟩ := h
    rfl
  · obtain ⟨a, S, o, v1, v2, d1, d2, rfl, ho, T, hii, qe⟩ := h
    refine ⟨_, (pss_cons (ps_set (i := 4) sc_calculate.nd rfl (.inl rfl) (pe_call G_kinds_of (hr.mono (by omega)) (by rfl) L.kinds_of.g L.kinds_of.F.kp L.kinds_of.b .nil pass0 (pa_cons (pv 0) (pa_cons (pv 2) (pa_cons (pv 3) pa_nil)))))
      (pss_cons (ps_if (pt_cmpR (op_neD (units64 hr)) (pv 4) (pe_tup (pa_cons pe_str (pa_cons pe_str pa_nil))) (nomark _))
        (pss_one (ps_expr (pe_callS G_refuse_operands (hr.mono (by omega)) (by rfl) L.refuse_operands.g L.refuse_operands.F.kp L.refuse_operands.b (fun σ => passAt (takes_of rfl rfl rfl rfl) σ) (pa_cons (pe_ix ix_kdict (pe_gc (v := .ref D.a) (by rfl) ⟨_, D.g, rfl⟩) (pv 1) (fun _ _ => rfl)) (pa_cons (pv 4) pa_nil)))))
        pss_nil)
      (pss_cons ps_never
      (pss_cons ps_never
      (pss_cons ps_never
      (pss_cons ps_never
      (pss_one ps_never))))))), ?_⟩
    obtain ⟨k1, l1⟩ := kind_kn S d1
    obtain ⟨k2, l2⟩ := kind_kn S d2
    refine ⟨_, rfl, _, rfl, _, rfl, a, S, v1, v2, d1, d2, rfl, T.sm, T.h1, T.h2, T.o1, T.o2, fun p np => ?_⟩
    have s1 := same_upd (o := .tup [.str (kindD S d1), .str (kindD S d2)]) np
    have hp := upd_same (H := H) (a := p) (o := .tup [.str (kindD S d1), .str (kindD S d2)])
    generalize upd H p (.tup [.str (kindD S d1), .str (kindD S d2)]) = H1 at s1 hp
    rw [k1, k2] at hp qe
    refine ⟨_, rfl, (by show 2 ≤ sizeLine; decide), fun r nr => ?_⟩
    have s2 := same_upd (o := .tup [.str "integer", .str "integer"]) nr
    refine ⟨_, _, kk_dp (s2 _ _ hp), ss_dp upd_same, kk_shape _ l1 _ l2, by decide +kernel, _, rfl, ?_⟩
    rw [kk_int _ l1 _ l2, decide_eq_false hii]
    refine iteT ?_
    exact ⟨_, rfl, D.a, o.1, _, rfl, rfl, D.d o ho, _, rfl, o.2, p, _, _, rfl, verb_len o ho, kn_short _ l1, kn_short _ l2, SqT.of (s2 _ _ hp), qe _ (s1.trans s2)⟩
end
end My
namespace My
open PySem L2 SX XT XS XE XD XL
open C8 (pss_cut tCut cutS_slice pe_gc)
/-- the classes are the first m things, each below an earlier one or none -/
def Kins (S : St) (m : Nat) : Prop := m ≤ S.things.length ∧ ∀ k, k < m → ∃ nm par ms, S.things[k]? = some (.kin nm par ms) ∧ (par = .non ∨ ∃ j, par = .obj j ∧ j < k)
def bel (S : St) : Nat → Dv → Nat → Bool
  | f + 1, .obj k, n => if k = n then true else match S.things[k]? with
    | some (.kin _ par _) => bel S f par n
    | _ => false
  | _, _, _ => false
def rank : Dv → Nat
  | .obj k => k + 1
  | _ => 0
def okK (m : Nat) (d : Dv) : Prop := d = .non ∨ ∃ k, d = .obj k ∧ k < m
theorem bel_fuel {S : St} {m : Nat} (hk : Kins S m) {n : Nat} : ∀ (f g : Nat) (d : Dv), okK m d → rank d ≤ f → rank d ≤ g → bel S f d n = bel S g d n := by
  intro f
  induction f with
  | zero =>
    intro g d hd hf hg
    rcases hd with rfl | ⟨k, rfl, hkm⟩
    · cases g <;> rfl
    · exact absurd hf (by show ¬ k + 1 ≤ 0; omega)
  | succ f ih =>
    intro g d hd hf hg
    rcases hd with rfl | ⟨k, rfl, hkm⟩
    · cases g <;> rfl
    · obtain ⟨nm, par, ms, e, hp⟩ := hk.2 k hkm
      cases g with
      | zero => exact absurd hg (by show ¬ k + 1 ≤ 0; omega)
      | succ g =>
        unfold bel
        rw [e]
        dsimp only
        have hf : k + 1 ≤ f + 1 := hf
        have hg : k + 1 ≤ g + 1 := hg
        have : bel S f par n = bel S g par n := by
          rcases hp with rfl | ⟨j, rfl, hj⟩
          · exact ih g .non (.inl rfl) (Nat.zero_le _) (Nat.zero_le _)
          · exact ih g (.obj j) (.inr ⟨j, rfl, by omega⟩) (show j + 1 ≤ f by omega) (show j + 1 ≤ g by omega)
        rw [this]
section
variable {P : Program} {w : World} {K : PySem.W.Frag} {mg : Str → Option Value} {base : Heap} {A : Ads}
def spIB (P : Program) (w : World) (A : Ads) : Sp := fun vs H Q _ => ∃ (a : Sa) (S : St) (m : Nat) (kv ov : V) (d : Dv) (n : Nat), vs = [.ref a.s, kv, ov] ∧ SM P w A H a S ∧ Kins S m ∧ Has A H kv d ∧ Has A H ov (.obj n) ∧ okK m d ∧ ∀ H', Same H H' → Q (.bl (bel S S.things.length d n)) H'
theorem ok_is_below (L : Lib P K mg A) : FnOk P w K mg base CX0 3 L.is_below.f L.is_below.fd ["store", "kin", "other"] (spIB P w A) := by
  have G_Store_at : FnOk P w K mg base CX0 1 L.Store_at.f L.Store_at.fd ["self", "ref"] (spAt P w A) := ok_Store_at L
  refine L.is_below.F.ok sc_is_below (fun vs H Q E h => ?_) (fun cdv A' outer s H vs Q E hr h => ?_)
  · obtain ⟨a, S, m, kv, ov, d, n, rfl, _⟩ := h
    rfl
  · obtain ⟨a, S, m, kv, ov, d, n, rfl, hS, hK, h1, h2, hd, q⟩ := h
    refine ⟨_, (pss_cons (ps_while PassesOwn.never (pt_cmpR op_notN (pv 1) pe_non (nomark _))
        (pss_cons (ps_if (pt_cmpR (op_eqM L (hr.mono (by omega))) (pv 1) (pv 2) (nomark _))
        (pss_one (ps_ret pe_bl))
        pss_nil)
      (pss_one (ps_set (i := 1) sc_is_below.nd rfl (.inl rfl) (pe_fld (pe_meth (pv 0) L.c_Store.cl L.Store_at.m G_Store_at (hr.mono (by omega)) L.Store_at.b .nil pass0 (pa_cons (pv 1) pa_nil)) rfl)))))
      (pss_one (ps_ret pe_bl))), ?_⟩
    have hrk : rank d ≤ S.things.length := by
      rcases hd with rfl | ⟨k, rfl, hkm⟩
      · exact Nat.zero_le _
      · have := hK.1
        show k + 1 ≤ _
        omega
    refine ⟨fun f σ H' => ∃ (kv' : V) (d' : Dv), σ = [some (.ref a.s), some kv', some ov] ∧ Same H H' ∧ Has A H' kv' d' ∧ okK m d' ∧ rank d' ≤ f ∧ bel S f d' n = bel S S.things.length d n, ⟨_, kv, d, rfl, fun _ _ e => e, h1, hd, hrk, rfl⟩, ?_⟩
    rintro f σ H1 ⟨kv', d', rfl, s1, hk', hd', hr', eb⟩
    have q1 := q H1 s1
    rw [← eb] at q1
    refine ⟨_, rfl, rfl, _, rfl, ?_⟩
    rcases hd' with rfl | ⟨k, rfl, hkm⟩
    · cases hk'
      refine iteF ?_
      have : bel S f .non n = false := by cases f <;> rfl
      rw [this] at q1
      exact q1
    · obtain ⟨nm, par, ms, e, hp⟩ := hK.2 k hkm
      obtain ⟨b, db, rfl, hb⟩ := id hk'
      refine iteT ?_
      cases f with
      | zero => exact absurd hr' (by show ¬ k + 1 ≤ 0; omega)
      | succ f =>
        have hr' : k + 1 ≤ f + 1 := hr'
        have S1 := hS.same s1
        obtain ⟨dsx, hs0⟩ := S1.s_
        obtain ⟨x, mm, hx, hm, dx, pv, kvs, a1, a2, a3⟩ := S1.get e
        refine ⟨fun σ' H' => ∃ (kv' : V) (d' : Dv), σ' = [some (.ref a.s), some kv', some ov] ∧ Same H H' ∧ Has A H' kv' d' ∧ okK m d' ∧ rank d' ≤ f ∧ bel S f d' n = bel S S.things.length d n, fun σ' H' h => ⟨f, Nat.lt_succ_self f, h⟩, ?_⟩
        refine ⟨_, rfl, _, rfl, .obj k, .obj n, hk', h2.sv (Same.sv s1), rfl, _, rfl, ?_⟩
        by_cases hkn : k = n
        · subst hkn
          refine ifT (decide_eq_true rfl) ?_
          have : bel S (f + 1) (.obj k) k = true := if_pos rfl
          rw [this] at q1
          exact q1
        · refine ifF (decide_eq_false fun z => hkn (by cases z; rfl)) ?_
          have eb2 : bel S (f + 1) (.obj k) n = bel S f par n := by
            show (if k = n then true else match S.things[k]? with
              | some (.kin _ par _) => bel S f par n
              | _ => false) = _
            rw [if_neg hkn, e]
          refine ⟨_, rfl, a.s, dsx, _, rfl, hs0, st_no _ _ _ _ (by decide +kernel) (by decide +kernel) (by decide +kernel) (by decide +kernel), _, rfl, a, S, b, x, k, rfl, S1, hk', hx, x, A.Kin, dx, _, pv, rfl, a1, L.c_Kin.cl, L.n_Kin_parent, ?_, pv, par, rfl, s1, a2, ?_, ?_, eb2 ▸ eb⟩
          · unfold kinF
            rw [lk_skip (by decide +kernel)]
            exact lk_hit
          · rcases hp with rfl | ⟨j, rfl, hj⟩
            · exact .inl rfl
            · exact .inr ⟨j, rfl, by omega⟩
          · rcases hp with rfl | ⟨j, rfl, hj⟩
            · exact Nat.zero_le _
            · show j + 1 ≤ f
              omega
/-- the owners of instances are classes -/
def Owns (S : St) (m : Nat) : Prop := ∀ (n : Nat) o ns, S.things[n]? = some (.inst o ns) → ∃ k, o = .obj k ∧ k < m
def isI (S : St) : Dv → Nat → Bool
  | .obj k, n => match S.things[k]? with
    | some (.inst o _) => bel S S.things.length o n
    | _ => false
  | _, _ => false
theorem kn_class : ∀ n, n < 9 → decide (V.str (kn n) = V.str "class") = decide (n = 8) := by decide +kernel
theorem kn_inst : ∀ n, n < 9 → decide (V.str (kn n) = V.str "instance") = decide (n = 7) := by decide +kernel
theorem kn_integer : ∀ n, n < 9 → decide (V.str (kn n) = V.str "integer") = decide (n = 2) := by decide +kernel
theorem kc8 {S : St} {d : Dv} (h : kc S d = 8) : ∃ n nm par ms, d = .obj n ∧ S.things[n]? = some (.kin nm par ms) := by
  cases d with
  | obj n =>
    have h : kcT S.things[n]? = 8 := h
    cases e : S.things[n]? with
    | none => rw [e] at h; cases h
    | some t =>
      rw [e] at h
      cases t <;> first | exact ⟨n, _, _, _, rfl, e⟩ | (cases h; done)
  | _ => cases h
theorem kc7 {S : St} {d : Dv} (h : kc S d = 7) : ∃ n o ns, d = .obj n ∧ S.things[n]? = some (.inst o ns) := by
  cases d with
  | obj n =>
    have h : kcT S.things[n]? = 7 := h
    cases e : S.things[n]? with
    | none => rw [e] at h; cases h
    | some t =>
      rw [e] at h
      cases t <;> first | exact ⟨n, _, _, rfl, e⟩ | (cases h; done)
  | _ => cases h
theorem isI_no {S : St} {d : Dv} {n : Nat} (h : kc S d ≠ 7) : isI S d n = false := by
  cases d with
  | obj k =>
    have h : kcT S.things[k]? ≠ 7 := h
    show (match S.things[k]? with
      | some (.inst o _) => bel S S.things.length o n
      | _ => false) = false
    cases e : S.things[k]? with
    | none => rfl
    | some t =>
      rw [e] at h
      cases t <;> first | exact absurd rfl h | rfl
  | _ => rfl
def spIsI (P : Program) (w : World) (A : Ads) : Sp := fun vs H Q E => ∃ (a : Sa) (S : St) (m : Nat) (v1 v2 : V) (d1 d2 : Dv), vs = [.ref a.s, v1, v2] ∧ Two_ P w A H a S v1 v2 d1 d2 ∧ Kins S m ∧ Owns S m ∧
  (∀ n, d2 = .obj n → kc S d2 = 8 → ∀ H', Same H H' → Q (.bl (isI S d1 n)) H') ∧ (kc S d2 ≠ 8 → ∀ H', Same H H' → Err E A.ScriptError H' "KindError" "is needs a class")
theorem ok_is_instance (L : Lib P K mg A) : FnOk P w K mg base (L2.CX P w) 4 L.is_instance.f L.is_instance.fd ["store", "x", "y"] (spIsI P w A) := by
  have G_kind_of : FnOk P w K mg base CX0 2 L.kind_of.f L.kind_of.fd ["store", "value"] (spKO P w A) := ok_kind_of L
  have G_is_below : FnOk P w K mg base CX0 3 L.is_below.f L.is_below.fd ["store", "kin", "other"] (spIB P w A) := ok_is_below L
  have G_Store_at : FnOk P w K mg base CX0 1 L.Store_at.f L.Store_at.fd ["self", "ref"] (spAt P w A) := ok_Store_at L
  refine L.is_instance.F.okX sc_is_instance (fun vs H Q E h => ?_) (fun cdv A' outer s H vs Q E hr h => ?_)
  · obtain ⟨a, S, m, v1, v2, d1, d2, rfl, _⟩ := h
    rfl
  · obtain ⟨a, S, m, v1, v2, d1, d2, rfl, T, hK, hO, q1, q2⟩ := h
    refine ⟨_, (pss_cons (ps_if (pt_cmpR op_ne (pe_call G_kind_of (hr.mono (by omega)) (by rfl) L.kind_of.g L.kind_of.F.kp L.kind_of.b .nil pass0 (pa_cons (pv 0) (pa_cons (pv 2) pa_nil))) pe_str (nomark _))
        (pss_one (ps_raise2 rfl L.x_ScriptError.T (L.x_ScriptError.F _ _) (hr.mono (by omega)) (takes_of rfl rfl rfl rfl) L.x_ScriptError.b (by rfl) L.x_ScriptError.g (pa_cons pe_str (pa_cons pe_str pa_nil))))
        pss_nil)
      (pss_one (ps_ret (pe_and (pe_cmpR op_eq (pe_call G_kind_of (hr.mono (by omega)) (by rfl) L.kind_of.g L.kind_of.F.kp L.kind_of.b .nil pass0 (pa_cons (pv 0) (pa_cons (pv 1) pa_nil))) pe_str (nomark _)) (pe_one (pe_call G_is_below (hr.mono (by omega)) (by rfl) L.is_below.g L.is_below.F.kp L.is_below.b .nil pass0 (pa_cons (pv 0) (pa_cons (pe_fld (pe_meth (pv 0) L.c_Store.cl L.Store_at.m G_Store_at (hr.mono (by omega)) L.Store_at.b .nil pass0 (pa_cons (pv 1) pa_nil)) rfl) (pa_cons (pv 2) pa_nil))))))))), ?_⟩
    obtain ⟨k1, l1⟩ := kind_kn S d1
    obtain ⟨k2, l2⟩ := kind_kn S d2
    refine ⟨_, rfl, _, rfl, a, S, v2, d2, rfl, T.sm, T.h2, T.o2, rfl, _, rfl, ?_⟩
    rw [k2, kn_class _ l2]
    by_cases h8 : kc S d2 = 8
    · rw [decide_eq_true h8]
      refine iteF ?_
      obtain ⟨n, nm, par, ms, rfl, hn⟩ := kc8 h8
      refine ⟨_, rfl, _, rfl, a, S, v1, d1, rfl, T.sm, T.h1, T.o1, rfl, _, rfl, ?_⟩
      rw [k1, kn_inst _ l1]
      by_cases h7 : kc S d1 = 7
      · rw [decide_eq_true h7]
        obtain ⟨k, o, ns, rfl, hk⟩ := kc7 h7
        obtain ⟨x, mm, hx, hm, dx, vo, kvs, a1, a2, a3⟩ := T.sm.get hk
        obtain ⟨dsx, hs0⟩ := T.sm.s_
        obtain ⟨b, db, rfl, hb⟩ := id T.h1
        refine iteT ⟨_, rfl, _, rfl, a.s, dsx, _, rfl, hs0, st_no _ _ _ _ (by decide +kernel) (by decide +kernel) (by decide +kernel) (by decide +kernel), _, rfl, a, S, b, x, k, rfl, T.sm, T.h1, hx, x, A.Instance, dx, _, vo, rfl, a1, L.c_Instance.cl, L.n_Instance_owner, lk_hit, _, rfl, a, S, m, vo, v2, o, n, rfl, T.sm, hK, a2, T.h2, ?_, fun H' s' => ?_⟩
        · obtain ⟨k', e, hk'⟩ := hO k o ns hk
          exact .inr ⟨k', e, hk'⟩
        · have := q1 n rfl h8 H' s'
          have e : isI S (.obj k) n = bel S S.things.length o n := by
            show (match S.things[k]? with
              | some (.inst o _) => bel S S.things.length o n
              | _ => false) = _
            rw [hk]
          rw [e] at this
          exact this
      · rw [decide_eq_false h7]
        refine iteF ?_
        have := q1 n rfl h8 H fun _ _ e => e
        rw [isI_no h7] at this
        exact this
    · rw [decide_eq_false h8]
      exact iteT (made2 (by decide +kernel) (by decide +kernel) (q2 h8 H fun _ _ e => e))
def spUn (P : Program) (w : World) (A : Ads) : Sp := fun vs H Q E => ∃ (a : Sa) (S : St) (v : V) (d : Dv), vs = [.ref a.s, .str "-", v] ∧ SM P w A H a S ∧ Has A H v d ∧ okV S d ∧
  (∀ i, d = .int i → ∀ H', Same H H' → Q (.int (-i)) H') ∧ (kc S d ≠ 2 → ∀ H', Same H H' → Err E A.ScriptError H' "KindError" (("cannot negate " : Str) ++ kindD S d))
theorem ok_unary (L : Lib P K mg A) : FnOk P w K mg base (L2.CX P w) 4 L.unary.f L.unary.fd ["store", "operator", "x"] (spUn P w A) := by
  have G_kind_of : FnOk P w K mg base CX0 2 L.kind_of.f L.kind_of.fd ["store", "value"] (spKO P w A) := ok_kind_of L
  refine L.unary.F.okX sc_unary (fun vs H Q E h => ?_) (fun cdv A' outer s H vs Q E hr h => ?_)
  · obtain ⟨a, S, v, d, rfl, _⟩ := h
    rfl
  · obtain ⟨a, S, v, d, rfl, hS, hv, ho, q1, q2⟩ := h
    refine ⟨_, (pss_cons (ps_if (pt_cmpR op_eq (pv 1) pe_str (nomark _))
        (pss_one ps_never)
        pss_nil)
      (pss_cons (ps_set (i := 3) sc_unary.nd rfl (.inl rfl) (pe_call G_kind_of (hr.mono (by omega)) (by rfl) L.kind_of.g L.kind_of.F.kp L.kind_of.b .nil pass0 (pa_cons (pv 0) (pa_cons (pv 2) pa_nil))))
      (pss_cons (ps_if (pt_cmpR op_ne (pv 3) pe_str (nomark _))
        (pss_one (ps_raise2 rfl L.x_ScriptError.T (L.x_ScriptError.F _ _) (hr.mono (by omega)) (takes_of rfl rfl rfl rfl) L.x_ScriptError.b (by rfl) L.x_ScriptError.g (pa_cons pe_str (pa_cons (pe_joined (.cons pe_str (.cons (pe_fmt (pv 3)) .nil))) pa_nil))))
        pss_nil)
      (pss_one (ps_ret (pe_un un_neg (pv 2))))))), ?_⟩
    obtain ⟨k1, l1⟩ := kind_kn S d
    refine ⟨_, rfl, rfl, _, rfl, ifF (by decide +kernel) ?_⟩
    refine ⟨_, rfl, _, rfl, a, S, v, d, rfl, hS, hv, ho, _, rfl, rfl, _, rfl, ?_⟩
    rw [k1, kn_integer _ l1]
    by_cases h2 : kc S d = 2
    · rw [decide_eq_true h2]
      obtain ⟨i, rfl⟩ := kc2 h2
      cases hv
      exact iteF ⟨_, rfl, _, rfl, q1 i rfl H fun _ _ e => e⟩
    · rw [decide_eq_false h2]
      refine iteT ?_
      have lk := kn_short _ l1
      have l14 : (("cannot negate " : Str)).length = 14 := by decide +kernel
      have q3 := q2 h2 H fun _ _ e => e
      rw [k1] at q3
      refine ⟨_, rfl, lt5 (by decide +kernel), _, rfl, .inl ⟨_, rfl, lt5 (by omega), _, rfl, ?_, ?_⟩⟩
      · rw [emp_app, Str.length_append, l14]
        exact Nat.le_trans (m := 100000) (by omega) (by decide)
      · rw [emp_app]
        exact made2 (by decide +kernel) (by rw [Str.length_append, l14]; omega) q3
end
end My
namespace My
open PySem L2 SX XT XS XE XD XL
open C8 (pss_cut tCut cutS_slice pe_gc)
section
variable {P : Program} {w : World} {K : PySem.W.Frag} {mg : Str → Option Value} {base : Heap} {A : Ads}
/-- what an operator asks and gives -/
def binQ (P : Program) (w : World) (A : Ads) (a : Sa) (S : St) (m : Nat) (H : Hp) (o : Str) (d1 d2 : Dv) (Q : VK) (E : XK) : Prop :=
  (∃ v, (o, v) ∈ verbS ∧ ∀ H', Same H H' → Err E A.ScriptError H' "KindError" (msgO v (kindD S d1) (kindD S d2))) ∨
  (o ∈ ordsS ∧ (∀ x y, d1 = .str x → d2 = .str y → ∀ H', Same H H' → Q (.bl (cmpS o x y)) H') ∧ (¬ (kc S d1 = 3 ∧ kc S d2 = 3) → ∀ H', Same H H' → Err E A.ScriptError H' "KindError" (msgO "compare" (kindD S d1) (kindD S d2)))) ∨
  (o = "is" ∧ Kins S m ∧ Owns S m ∧ (∀ n, d2 = .obj n → kc S d2 = 8 → ∀ H', Same H H' → Q (.bl (isI S d1 n)) H') ∧ (kc S d2 ≠ 8 → ∀ H', Same H H' → Err E A.ScriptError H' "KindError" "is needs a class")) ∨
  (o = "+" ∧ S.things.length < 100000 ∧ addQ P w A a S H d1 d2 Q E)
def spBin (P : Program) (w : World) (A : Ads) : Sp := fun vs H Q E => ∃ (a : Sa) (S : St) (m : Nat) (o : Str) (v1 v2 : V) (d1 d2 : Dv), vs = [.ref a.s, .str o, v1, v2] ∧ Two_ P w A H a S v1 v2 d1 d2 ∧ ¬ (kc S d1 = 2 ∧ kc S d2 = 2) ∧ binQ P w A a S m H o d1 d2 Q E
theorem verb_case : ∀ p ∈ verbS, decide (V.str p.1 = V.str "==") = false ∧ decide (V.str p.1 = V.str "!=") = false ∧ decide (V.str p.1 = V.str "is") = false ∧ decide (V.str p.1 = V.str "+") = false ∧ inV (.str p.1) [.str "<", .str "<=", .str ">", .str ">="] = false := by decide +kernel
theorem ord_case : ∀ o ∈ ordsS, decide (V.str o = V.str "==") = false ∧ decide (V.str o = V.str "!=") = false ∧ decide (V.str o = V.str "is") = false ∧ decide (V.str o = V.str "+") = false ∧ inV (.str o) [.str "<", .str "<=", .str ">", .str ">="] = true := by decide +kernel
theorem ok_binary (L : Lib P K mg A) (D : Dx K w mg "VERBS" verbS) : FnOk P w K mg base (L2.CX P w) 7 L.binary.f L.binary.fd ["store", "operator", "x", "y"] (spBin P w A) := by
  have G_add : FnOk P w K mg base (L2.CX P w) 6 L.add.f L.add.fd ["store", "x", "y"] (spAdd P w A) := ok_add L
  have G_compare : FnOk P w K mg base (L2.CX P w) 4 L.compare.f L.compare.fd ["store", "operator", "x", "y"] (spCmp P w A) := ok_compare L
  have G_calculate : FnOk P w K mg base (L2.CX P w) 4 L.calculate.f L.calculate.fd ["store", "operator", "x", "y"] (spCalc P w A) := ok_calculate L D
  have G_is_instance : FnOk P w K mg base (L2.CX P w) 4 L.is_instance.f L.is_instance.fd ["store", "x", "y"] (spIsI P w A) := ok_is_instance L
  refine L.binary.F.okX sc_binary (fun vs H Q E h => ?_) (fun cdv A' outer s H vs Q E hr h => ?_)
  · obtain ⟨a, S, m, o, v1, v2, d1, d2, rfl, _⟩ := h
    rfl
  · obtain ⟨a, S, m, o, v1, v2, d1, d2, rfl, T, hii, q⟩ := h
    refine ⟨_, (pss_cons (ps_if (pt_cmpR op_eq (pv 1) pe_str (nomark _))
        (pss_one ps_never)
        pss_nil)
      (pss_cons (ps_if (pt_cmpR op_eq (pv 1) pe_str (nomark _))
        (pss_one ps_never)
        pss_nil)
      (pss_cons (ps_if (pt_cmpR op_eq (pv 1) pe_str (nomark _))
        (pss_one (ps_ret (pe_callS G_is_instance (hr.mono (by omega)) (by rfl) L.is_instance.g L.is_instance.F.kp L.is_instance.b (fun σ => passAt (takes_of rfl rfl rfl rfl) σ) (pa_cons (pv 0) (pa_cons (pv 2) (pa_cons (pv 3) pa_nil))))))
        pss_nil)
      (pss_cons (ps_if (pt_cmpR op_eq (pv 1) pe_str (nomark _))
        (pss_one (ps_ret (pe_callS G_add (hr.mono (by omega)) (by rfl) L.add.g L.add.F.kp L.add.b (fun σ => passAt (takes_of rfl rfl rfl rfl) σ) (pa_cons (pv 0) (pa_cons (pv 2) (pa_cons (pv 3) pa_nil))))))
        pss_nil)
      (pss_cons (ps_if (pt_cmpR op_in_seq (pv 1) (pe_gc (v := .ref L.v_ORDERS.a) (by rfl) ⟨_, L.v_ORDERS.g, rfl⟩) (by rfl))
        (pss_one (ps_ret (pe_callS G_compare (hr.mono (by omega)) (by rfl) L.compare.g L.compare.F.kp L.compare.b (fun σ => passAt (takes_of rfl rfl rfl rfl) σ) (pa_cons (pv 0) (pa_cons (pv 1) (pa_cons (pv 2) (pa_cons (pv 3) pa_nil)))))))
        pss_nil)
      (pss_one (ps_ret (pe_callS G_calculate (hr.mono (by omega)) (by rfl) L.calculate.g L.calculate.F.kp L.calculate.b (fun σ => passAt (takes_of rfl rfl rfl rfl) σ) (pa_cons (pv 0) (pa_cons (pv 1) (pa_cons (pv 2) (pa_cons (pv 3) pa_nil)))))))))))), ?_⟩
    rcases q with ⟨v, hv, q⟩ | ⟨ho, q1, q2⟩ | ⟨rfl, hK, hO, q1, q2⟩ | ⟨rfl, hb, q⟩
    · obtain ⟨c1, c2, c3, c4, c5⟩ := verb_case _ hv
      refine ⟨_, rfl, rfl, _, rfl, ifF c1 ⟨_, rfl, rfl, _, rfl, ifF c2 ⟨_, rfl, rfl, _, rfl, ifF c3 ⟨_, rfl, rfl, _, rfl, ifF c4 ⟨_, rfl, L.v_ORDERS.a, _, rfl, .inr (L.v_ORDERS.s _), rfl, by decide +kernel, _, rfl, ifF c5 ?_⟩⟩⟩⟩⟩
      exact ⟨_, rfl, _, rfl, _, rfl, _, rfl, a, S, (o, v), v1, v2, d1, d2, rfl, hv, T, hii, q⟩
    · obtain ⟨c1, c2, c3, c4, c5⟩ := ord_case _ ho
      refine ⟨_, rfl, rfl, _, rfl, ifF c1 ⟨_, rfl, rfl, _, rfl, ifF c2 ⟨_, rfl, rfl, _, rfl, ifF c3 ⟨_, rfl, rfl, _, rfl, ifF c4 ⟨_, rfl, L.v_ORDERS.a, _, rfl, .inr (L.v_ORDERS.s _), rfl, by decide +kernel, _, rfl, ifT c5 ?_⟩⟩⟩⟩⟩
      exact ⟨_, rfl, _, rfl, _, rfl, _, rfl, a, S, o, v1, v2, d1, d2, rfl, ho, T, hii, q1, q2⟩
    · refine ⟨_, rfl, rfl, _, rfl, ifF (by decide +kernel) ⟨_, rfl, rfl, _, rfl, ifF (by decide +kernel) ⟨_, rfl, rfl, _, rfl, ifT (by decide +kernel) ?_⟩⟩⟩
      exact ⟨_, rfl, _, rfl, _, rfl, a, S, m, v1, v2, d1, d2, rfl, T, hK, hO, q1, q2⟩
    · refine ⟨_, rfl, rfl, _, rfl, ifF (by decide +kernel) ⟨_, rfl, rfl, _, rfl, ifF (by decide +kernel) ⟨_, rfl, rfl, _, rfl, ifF (by decide +kernel) ⟨_, rfl, rfl, _, rfl, ifT (by decide +kernel) ?_⟩⟩⟩⟩
      exact ⟨_, rfl, _, rfl, _, rfl, a, S, v1, v2, d1, d2, rfl, T, hii, hb, q⟩
def spMkC (P : Program) (w : World) (A : Ads) : Sp := fun vs H Q _ => ∃ (a : Sa) (S : St) (nm : Str) (uv : V) (pd : Dv), vs = [.ref a.s, .str nm, uv] ∧ SM P w A H a S ∧ Has A H uv pd ∧ (pd = .non ∨ kc S pd = 8) ∧ okV S pd ∧ S.things.length < 100000 ∧ New P w A a S H (.kin nm pd []) Q
theorem ok_make_class (L : Lib P K mg A) : FnOk P w K mg base CX0 4 L.make_class.f L.make_class.fd ["store", "name", "parent"] (spMkC P w A) := by
  have G_kind_of : FnOk P w K mg base CX0 2 L.kind_of.f L.kind_of.fd ["store", "value"] (spKO P w A) := ok_kind_of L
  have G_Store_make : FnOk P w K mg base CX0 3 L.Store_make.f L.Store_make.fd ["self", "thing"] (spMake P w A) := ok_Store_make L
  have G_Kin_init : FnOk P w K mg base CX0 1 L.Kin_init.f L.Kin_init.fd ["self", "name", "parent"] (spKI A) := ok_Kin_init L
  refine L.make_class.F.ok sc_make_class (fun vs H Q E h => ?_) (fun cdv A' outer s H vs Q E hr h => ?_)
  · obtain ⟨a, S, nm, uv, pd, rfl, _⟩ := h
    rfl
  · obtain ⟨a, S, nm, uv, pd, rfl, hS, hp, hpd, ho, hb, q⟩ := h
    refine ⟨_, (pss_cons (ps_if (PW.pt (pw_and (pt_cmpR op_notN (pv 2) pe_non (nomark _)) (pw_and1 (pt_cmpR op_ne (pe_call G_kind_of (hr.mono (by omega)) (by rfl) L.kind_of.g L.kind_of.F.kp L.kind_of.b .nil pass0 (pa_cons (pv 0) (pa_cons (pv 2) pa_nil))) pe_str (nomark _)))))
        (pss_one ps_never)
        pss_nil)
      (pss_one (ps_ret (pe_meth (pv 0) L.c_Store.cl L.Store_make.m G_Store_make (hr.mono (by omega)) L.Store_make.b .nil pass0 (pa_cons (pe_make L.Kin_init.m G_Kin_init (hr.mono (by omega)) (by rfl) L.c_Kin.g L.Kin_init.b .nil pass0 (pa_cons (pv 1) (pa_cons (pv 2) pa_nil))) pa_nil))))), ?_⟩
    obtain ⟨dsx, hs0⟩ := hS.s_
    have isn : decide (uv = V.non) = decide (pd = .non) := by
      cases pd with
      | non => cases hp; rfl
      | obj n => obtain ⟨b, dx, rfl, _⟩ := hp; rfl
      | bi n => obtain ⟨b, dx, rfl, _⟩ := hp; rfl
      | _ => cases hp; rfl
    obtain ⟨k1, l1⟩ := kind_kn S pd
    have main : ∀ (x dx : Addr), H x = none → H dx = none → spKI A [.ref x, .str nm, uv] (upd (upd H dx (.own x)) x (.ins A.Kin dx [])) (fun v H1 => v = .non ∧ spMake P w A [.ref a.s, .ref x] H1 Q (fun _ _ _ => False)) (fun _ _ _ => False) := fun x dx nx ndx => by
      refine ⟨x, dx, _, _, rfl, upd_same, fun H1 mm k1 hx nm' hm => ⟨rfl, ?_⟩⟩
      have sm0 : Same H (upd (upd H dx (.own x)) x (.ins A.Kin dx [])) := fun b u e => by
        rw [upd_ne (ne_of_none e nx), upd_ne (ne_of_none e ndx)]
        exact e
      have s1 := Same.made nx ndx k1
      obtain ⟨g1, g2, g3⟩ := hS.grow L s1 nx (sm0.free nm')
      exact ⟨a, S, x, mm, .kin nm pd [], rfl, hS.same s1, ⟨dx, uv, [], hx, hp.sv (Same.sv s1), hm, trivial⟩, g1, g2, hb, fun H2 r k2 hS2 nr hr2 => q H2 r _ (g3 H2 k2) hS2 hr2⟩
    by_cases hn : pd = .non
    · refine ⟨_, rfl, rfl, _, rfl, ?_⟩
      rw [isn, decide_eq_true hn]
      refine iteF (iteF ⟨_, rfl, a.s, dsx, _, rfl, hs0, st_no _ _ _ _ (by decide +kernel) (by decide +kernel) (by decide +kernel) (by decide +kernel), _, rfl, _, rfl, fun x dx nx ndx _ => main x dx nx ndx⟩)
    · have h8 : kc S pd = 8 := hpd.resolve_left hn
      refine ⟨_, rfl, rfl, _, rfl, ?_⟩
      rw [isn, decide_eq_false hn]
      refine iteT ⟨_, rfl, _, rfl, a, S, uv, pd, rfl, hS, hp, ho, rfl, _, rfl, ?_⟩
      rw [k1, kn_class _ l1, decide_eq_true h8]
      exact iteF ⟨_, rfl, a.s, dsx, _, rfl, hs0, st_no _ _ _ _ (by decide +kernel) (by decide +kernel) (by decide +kernel) (by decide +kernel), _, rfl, _, rfl, fun x dx nx ndx _ => main x dx nx ndx⟩
end
end My
namespace My
open PySem L2 SX XT XS XE XD XL
open C8 (pss_cut tCut cutS_slice pe_gc)
theorem op_mul_str {X : Cx} : OpR X (binaryOp .Mult) (fun x y H Q => ∃ z n, x = .str z ∧ y = .int n ∧ MulOk z n ∧ Q (.str (Txt.mul z n)) H) := by
  intro pins s σ H x y v u Q I rx ry h
  obtain ⟨z, n, rfl, rfl, hz, q⟩ := h
  obtain ⟨t, rfl⟩ := rx
  obtain ⟨t', rfl⟩ := ry
  exact SB.mul hz (fun t' tk => ⟨.str (Txt.mul z n), H, I.tok _, ⟨_, rfl⟩, q⟩)

section
variable {P : Program} {w : World} {K : PySem.W.Frag} {mg : Str → Option Value} {base : Heap} {A : Ads}
def spII (A : Ads) : Sp := fun vs H Q _ => ∃ x dx v, vs = [.ref x, v] ∧ H x = some (.ins A.Instance dx []) ∧ ∀ H' m, Keep x H H' → H' x = some (.ins A.Instance dx (insF v m)) → H m = none → H' m = some (.dK []) → Q .non H'
theorem ok_Instance_init (L : Lib P K mg A) : FnOk P w K mg base CX0 1 L.Instance_init.f L.Instance_init.fd ["self", "owner"] (spII A) := by
  refine L.Instance_init.F.ok sc_Instance_init (fun vs H Q E h => ?_) (fun cdv A' outer s H vs Q E hr h => ?_)
  · obtain ⟨x, dx, v, rfl, _⟩ := h
    rfl
  · obtain ⟨x, dx, v, rfl, ha, q⟩ := h
    refine ⟨_, (pss_cons (ps_fld (pv 0) (pv 1) rfl)
      (pss_one (ps_fld (pv 0) pe_dnewK rfl))), ?_⟩
    refine ⟨_, rfl, _, rfl, x, A.Instance, dx, _, rfl, ha, L.c_Instance.cl, L.n_Instance_owner, (by show 0 < 1000; decide), ?_⟩
    refine fun m hm => ?_
    have nam : x ≠ m := ne_of_none upd_same hm
    refine ⟨_, rfl, x, A.Instance, dx, _, rfl, (by rw [upd_ne nam]; exact upd_same), L.c_Instance.cl, L.n_Instance_named, (by show 1 < 1000; decide), ?_⟩
    exact q _ m (fun b o e n => by rw [upd_ne n, upd_ne (ne_of_none (H := upd H x _) (by rw [upd_ne n]; exact e) hm), upd_ne n]; exact e) upd_same (by rw [upd_ne nam.symm] at hm; exact hm) (by rw [upd_ne nam.symm]; exact upd_same)

def spCI (A : Ads) : Sp := fun vs H Q _ => ∃ x dx v1 v2 v3, vs = [.ref x, v1, v2, v3] ∧ H x = some (.ins A.Closure dx []) ∧ ∀ H', Keep x H H' → H' x = some (.ins A.Closure dx [("number", v1), ("wanted", v2), ("scope", v3)]) → Q .non H'
theorem ok_Closure_init (L : Lib P K mg A) : FnOk P w K mg base CX0 1 L.Closure_init.f L.Closure_init.fd ["self", "number", "wanted", "scope"] (spCI A) := by
  refine L.Closure_init.F.ok sc_Closure_init (fun vs H Q E h => ?_) (fun cdv A' outer s H vs Q E hr h => ?_)
  · obtain ⟨x, dx, v1, v2, v3, rfl, _⟩ := h
    rfl
  · obtain ⟨x, dx, v1, v2, v3, rfl, hx, q⟩ := h
    refine ⟨_, (pss_cons (ps_fld (pv 0) (pv 1) rfl)
      (pss_cons (ps_fld (pv 0) (pv 2) rfl)
      (pss_one (ps_fld (pv 0) (pv 3) rfl)))), ?_⟩
    refine ⟨_, rfl, _, rfl, x, A.Closure, dx, _, rfl, hx, L.c_Closure.cl, L.n_Closure_number, (by show 0 < 1000; decide), ?_⟩
    refine ⟨_, rfl, _, rfl, x, A.Closure, dx, _, rfl, upd_same, L.c_Closure.cl, L.n_Closure_wanted, (by show 1 < 1000; decide), ?_⟩
    refine ⟨_, rfl, _, rfl, x, A.Closure, dx, _, rfl, upd_same, L.c_Closure.cl, L.n_Closure_scope, (by show 2 < 1000; decide), ?_⟩
    exact q _ (fun b o e n => by rw [upd_ne n, upd_ne n, upd_ne n]; exact e) upd_same

theorem StL.ofK {H7 H : Hp} {a p : Addr} {ns : List Int} {x k : Int} (st7 : StL K H7 a p ns) (kk : Keep p H7 H) (hp : H p = some (.lst [.int x, .int k, .ref a])) (h0 : 0 ≤ k) : StL K H a p ns := by
  obtain ⟨x7, k7, h7, _, hs⟩ := st7
  exact ⟨x, k, hp, h0, sql_keep kk h7 hs⟩
/-- the law's draws and a store beside them -/
structure LI (P : Program) (w : World) (K : PySem.W.Frag) (A : Ads) (a p : Addr) (ns : List Int) (H7 H : Hp) (sa : Sa) (S : St) : Prop where
  st7 : StL K H7 a p ns
  k7 : Keep p H7 H
  st : StL K H a p ns
  sm : SM P w A H sa S
  fr : ∀ b, sa.own b → H7 b = none
variable {a p : Addr} {ns : List Int} {H7 H H' : Hp} {sa sa' : Sa} {S S' : St}
theorem LI.np (L : LI P w K A a p ns H7 H sa S) : ¬ sa.own p := fun z => by
  obtain ⟨x, k, h, _⟩ := L.st7
  rw [L.fr p z] at h
  cases h
theorem LI.hp (L : LI P w K A a p ns H7 H sa S) : ∃ xs, H p = some (.lst xs) := by
  obtain ⟨x, k, h, _⟩ := L.st
  exact ⟨_, h⟩
theorem LI.draw (L : LI P w K A a p ns H7 H sa S) (k : Keep p H H') (st : StL K H' a p ns) : LI P w K A a p ns H7 H' sa S := by
  obtain ⟨xs, hp⟩ := L.hp
  exact ⟨L.st7, L.k7.trans k, st, L.sm.keep k hp L.np, L.fr⟩
theorem LI.sv (L : LI P w K A a p ns H7 H sa S) (k : Keep p H H') : Sv H H' := by
  obtain ⟨xs, hp⟩ := L.hp
  exact Keep.sv k hp
theorem LI.same (L : LI P w K A a p ns H7 H sa S) (s : Same H H') : LI P w K A a p ns H7 H' sa S := L.draw (My.Same.keep s) (L.st.same s)
theorem LI.ev (L : LI P w K A a p ns H7 H sa S) (e : Ev sa sa' H H') (sm : SM P w A H' sa' S') : LI P w K A a p ns H7 H' sa' S' := by
  obtain ⟨x, k, hp, h0, _⟩ := L.st
  have kk : Keep p H7 H' := fun b u h n => e.fr _ _ (L.k7 _ _ h n) fun z => by rw [L.fr b z] at h; cases h
  refine ⟨L.st7, kk, L.st7.ofK kk (e.fr _ _ hp L.np) h0, sm, fun b z => ?_⟩
  rcases e.gw b z with q | q
  · exact L.fr b q
  · cases h : H7 b with
    | none => rfl
    | some u =>
      by_cases hb : b = p
      · rw [hb, hp] at q; cases q
      · rw [L.k7 _ _ h hb] at q; cases q

/-- what is neither the store's own nor the state stays -/
structure Od (p : Addr) (a b : Sa) (H H' : Hp) : Prop where
  fr : ∀ c u, H c = some u → ¬ a.own c → c ≠ p → H' c = some u
  s : b.s = a.s
  gw : ∀ c, b.own c → a.own c ∨ H c = none
theorem Od.trans {p : Addr} {a b c : Sa} {H H1 H2 : Hp} (x : Od p a b H H1) (y : Od p b c H1 H2) (np : ∃ u, H1 p = some u) : Od p a c H H2 := by
  refine ⟨fun d u e n q => y.fr _ _ (x.fr _ _ e n q) (fun z => ?_) q, y.s.trans x.s, fun d z => ?_⟩
  · rcases x.gw d z with q | q
    · exact n q
    · rw [q] at e; cases e
  · rcases y.gw d z with q | q
    · exact x.gw d q
    · cases e : H d with
      | none => exact .inr rfl
      | some u =>
        by_cases o : a.own d
        · exact .inl o
        · by_cases hp : d = p
          · obtain ⟨u, hu⟩ := np
            rw [hp, hu] at q; cases q
          · rw [x.fr _ _ e o hp] at q; cases q
theorem Od.keep {p : Addr} {a : Sa} {H H' : Hp} (k : Keep p H H') : Od p a a H H' := ⟨fun c u e _ n => k _ _ e n, rfl, fun _ z => .inl z⟩
theorem Od.ev {p : Addr} {a b : Sa} {H H' : Hp} (e : Ev a b H H') : Od p a b H H' := ⟨fun c u h n _ => e.fr _ _ h n, e.s, e.gw⟩
theorem Od.same {p : Addr} {a : Sa} {H H' : Hp} (s : Same H H') : Od p a a H H' := Od.keep (My.Same.keep s)
theorem Od.put {p D : Addr} {a b : Sa} {H H' : Hp} {o : HO} (x : Od p a b H H') (n : H D = none) : Od p a b H (upd H' D o) := ⟨fun c u e n1 n2 => by rw [upd_ne (ne_of_none e n)]; exact x.fr _ _ e n1 n2, x.s, x.gw⟩
theorem LI.h7 (L : LI P w K A a p ns H7 H sa S) {D : Addr} (n : H D = none) : H7 D = none := by
  cases h : H7 D with
  | none => rfl
  | some u =>
    by_cases hb : D = p
    · obtain ⟨xs, hp⟩ := L.hp
      rw [hb, hp] at n; cases n
    · rw [L.k7 _ _ h hb] at n; cases n
theorem LI.lst (L : LI P w K A a p ns H7 H sa S) {D : Addr} {xs ys : List V} (hD : H D = some (.lst xs)) (h7 : H7 D = none) (nd : ¬ sa.own D) (hp : D ≠ p) : LI P w K A a p ns H7 (upd H D (.lst ys)) sa S ∧ Sv H (upd H D (.lst ys)) := by
  have sv : Sv H (upd H D (.lst ys)) := fun b u e n => by
    rw [upd_ne fun z => by rw [z, hD] at e; exact n _ (Option.some.inj e).symm]
    exact e
  have kk : Keep p H7 (upd H D (.lst ys)) := fun b u e n => by rw [upd_ne (ne_of_none e h7)]; exact L.k7 _ _ e n
  obtain ⟨x, k, h1, h0, _⟩ := L.st
  exact ⟨⟨L.st7, kk, L.st7.ofK kk (by rw [upd_ne hp.symm]; exact h1) h0, L.sm.keep keep_upd hD nd, L.fr⟩, sv⟩

variable {H2 H3 : Hp}
theorem LI.grow (L : Lib P K mg A) (I : LI P w K A a p ns H7 H sa S) (I2 : LI P w K A a p ns H7 H2 sa S) {x m : Addr} (nx : H x = none) (nm : H m = none) :
    x ∉ sa.X ∧ m ∉ sa.t :: sa.o :: sa.l :: sa.M ∧ ∀ H3 S', Keep sa.t H2 H3 → SM P w A H3 { sa with X := sa.X ++ [x], M := sa.M ++ [m] } S' → LI P w K A a p ns H7 H3 { sa with X := sa.X ++ [x], M := sa.M ++ [m] } S' := by
  obtain ⟨g1, g2, g3⟩ := I.sm.grow L (H1 := H) (fun _ _ e => e) nx nm
  refine ⟨g1, g2, fun H3 S' k sm => ?_⟩
  have ot : sa.own sa.t := .inr (.inl rfl)
  have kk : Keep p H7 H3 := fun b u e n => k _ _ (I2.k7 _ _ e n) fun z => by rw [z, I2.fr _ ot] at e; cases e
  obtain ⟨y, c, hp, h0, _⟩ := I2.st
  have pt : p ≠ sa.t := fun z => I2.np (z ▸ ot)
  refine ⟨I2.st7, kk, I2.st7.ofK kk (k _ _ hp pt) h0, sm, fun b z => ?_⟩
  rcases (g3 H (fun _ _ e _ => e)).gw b z with q | q
  · exact I2.fr b q
  · exact I.h7 q

end
end My
namespace My
open PySem L2 SX XT XS XE XD XL
open C8 (pss_cut tCut cutS_slice pe_gc)
theorem ok_app {a b : Str} (ha : PyData.strOk a = true) (hb : PyData.strOk b = true) : PyData.strOk (a ++ b) = true := by
  show (a.cps ++ b.cps).all _ = true
  rw [Array.all_append]
  unfold PyData.strOk at ha hb
  rw [ha, hb]
  rfl
theorem ok_sign {c : Nat} (h : c < 0x110000) : PyData.strOk ⟨#[c]⟩ = true := by
  show (#[c] : Array Nat).all _ = true
  simp [h]
theorem ok_at {x : Str} (hx : PyData.strOk x = true) {i : Nat} (hi : i < x.cps.toList.length) : PyData.strOk ⟨#[x.cps.toList[i]]⟩ = true := by
  refine ok_sign ?_
  unfold PyData.strOk at hx
  rw [Array.all_eq_true] at hx
  have := hx i (by simpa using hi)
  simpa using this
theorem ok_mul {z : Str} {n : Nat} (hz : PyData.strOk z = true) : PyData.strOk (Txt.mul z ((n : Nat) : Int)) = true := by
  unfold Txt.mul
  split
  · decide +kernel
  · split
    · exact hz
    · have : ∀ (k : Nat) (acc : Array Nat), acc.all (fun c => decide (c < 0x110000)) = true → ((List.replicate k z.cps).foldl (· ++ ·) acc).all (fun c => decide (c < 0x110000)) = true := by
        intro k
        induction k with
        | zero => intro acc h; exact h
        | succ k ih =>
          intro acc h
          rw [List.replicate_succ, List.foldl_cons]
          refine ih _ ?_
          rw [Array.all_append, h]
          exact hz
      exact this _ #[] (by simp)
theorem mul_one_ok {z : Str} {n : Nat} (hz : z.length = 1) (hn : n ≤ 1000) : MulOk z ((n : Nat) : Int) := by
  refine ⟨?_, fun h1 _ => ?_, fun h1 _ => ?_⟩
  · have h1 : decide ((n : Int) < -(2 ^ 63 : Int)) = false := decide_eq_false (by omega)
    have h2 : decide ((n : Int) ≥ 2 ^ 63) = false := decide_eq_false (by omega)
    rw [h1, h2]
    rfl
  · rw [hz]
    have : (1 : Int) ≤ (2 ^ 63 - 1) / (n : Int) := by
      rw [Int.le_ediv_iff_mul_le (by omega)]
      omega
    omega
  · rw [hz]
    unfold PySem.Builtin.Str.tooLong
    rw [decide_eq_false_iff_not, sizeLine_eq]
    have : ((n : Nat) : Int).toNat = n := by omega
    omega
theorem mul_one_len {z : Str} {n : Nat} (hz : z.length = 1) : (Txt.mul z ((n : Nat) : Int)).length ≤ n := by
  have := PyProof.Rows.len_mul_leN (x := z) (n := ((n : Nat) : Int)) (L := 1) (N := n) (by omega) (Int.le_refl _)
  omega
section
variable {P : Program} {w : World} {K : PySem.W.Frag} {mg : Str → Option Value} {base : Heap} {A : Ads}
def isInt : Dv → Bool
  | .int _ => true
  | _ => false
def spIsInt (A : Ads) : Sp := fun vs H Q _ => ∃ (v : V) (d : Dv), vs = [v] ∧ Has A H v d ∧ Q (.bl (isInt d)) H
theorem ok_law_is_integer (L : Lib P K mg A) : FnOk P w K mg base CX0 1 L.law_is_integer.f L.law_is_integer.fd ["told"] (spIsInt A) := by
  refine L.law_is_integer.F.ok sc_law_is_integer (fun vs H Q E h => ?_) (fun cdv A' outer s H vs Q E hr h => ?_)
  · obtain ⟨v, d, rfl, _⟩ := h
    rfl
  · obtain ⟨v, d, rfl, hv, q⟩ := h
    refine ⟨_, (pss_one (ps_ret (pe_and (pe_callB call_isi (by rfl) L.z_isinstance (by decide +kernel) (pa_cons (pv 0) (pa_cons (pe_bltn (v := .ty "int") (by rfl) L.z_int (by decide +kernel) rfl) pa_nil))) (pe_one (pe_not (pe_callB call_isi (by rfl) L.z_isinstance (by decide +kernel) (pa_cons (pv 0) (pa_cons (pe_bltn (v := .ty "bool") (by rfl) L.z_bool (by decide +kernel) rfl) pa_nil)))))))), ?_⟩
    refine ⟨_, rfl, v, .ty "int", _, .type "int", _, rfl, .ty _, has_ty L hv, kit_int L d, _, rfl, ite_or (fun e => ?_) fun e => ?_⟩
    · refine ⟨_, rfl, v, .ty "bool", _, .type "bool", _, rfl, .ty _, has_ty L hv, kit_bool L d, _, rfl, ?_⟩
      cases d <;> first | exact q | (cases e; done)
    · cases d <;> first | exact q | (cases e; done)
def spLK (P : Program) (w : World) (A : Ads) : Sp := fun vs H Q _ => ∃ (a : Sa) (S : St) (v : V) (d : Dv), vs = [.ref a.s, v] ∧ SM P w A H a S ∧ Has A H v d ∧ okV S d ∧ Q (.str (kindD S d)) H
theorem ok_law_kind (L : Lib P K mg A) : FnOk P w K mg base CX0 3 L.law_kind.f L.law_kind.fd ["store", "value"] (spLK P w A) := by
  have G_kind_of : FnOk P w K mg base CX0 2 L.kind_of.f L.kind_of.fd ["store", "value"] (spKO P w A) := ok_kind_of L
  refine L.law_kind.F.ok sc_law_kind (fun vs H Q E h => ?_) (fun cdv A' outer s H vs Q E hr h => ?_)
  · obtain ⟨a, S, v, d, rfl, _⟩ := h
    rfl
  · obtain ⟨a, S, v, d, rfl, hS, hv, ho, q⟩ := h
    refine ⟨_, (pss_cons (ps_if (pt_cmpR op_isN (pv 1) pe_non (nomark _))
        (pss_one (ps_ret pe_str))
        pss_nil)
      (pss_cons (ps_if (pt_val (pe_callB call_isi (by rfl) L.z_isinstance (by decide +kernel) (pa_cons (pv 1) (pa_cons (pe_bltn (v := .ty "bool") (by rfl) L.z_bool (by decide +kernel) rfl) pa_nil))))
        (pss_one (ps_ret pe_str))
        pss_nil)
      (pss_cons (ps_if (pt_val (pe_callB call_isi (by rfl) L.z_isinstance (by decide +kernel) (pa_cons (pv 1) (pa_cons (pe_bltn (v := .ty "int") (by rfl) L.z_int (by decide +kernel) rfl) pa_nil))))
        (pss_one (ps_ret pe_str))
        pss_nil)
      (pss_cons (ps_if (pt_val (pe_callB call_isi (by rfl) L.z_isinstance (by decide +kernel) (pa_cons (pv 1) (pa_cons (pe_bltn (v := .ty "str") (by rfl) L.z_str (by decide +kernel) rfl) pa_nil))))
        (pss_one (ps_ret pe_str))
        pss_nil)
      (pss_one (ps_ret (pe_call G_kind_of (hr.mono (by omega)) (by rfl) L.kind_of.g L.kind_of.F.kp L.kind_of.b .nil pass0 (pa_cons (pv 0) (pa_cons (pv 1) pa_nil))))))))), ?_⟩
    have ty := has_ty L hv
    have isn : decide (v = V.non) = decide (d = .non) := by
      cases d with
      | non => cases hv; rfl
      | obj n => obtain ⟨b, dx, rfl, _⟩ := hv; rfl
      | bi n => obtain ⟨b, dx, rfl, _⟩ := hv; rfl
      | _ => cases hv; rfl
    refine ⟨_, rfl, rfl, _, rfl, ite_or (fun e => ?_) fun e0 => ?_⟩
    · rw [isn] at e
      have : d = .non := of_decide_eq_true e
      subst this
      exact q
    refine ⟨_, rfl, v, .ty "bool", _, _, _, rfl, .ty _, ty, kit_bool L d, _, rfl, ite_or (fun e => ?_) fun e1 => ?_⟩
    · cases d <;> first | exact q | (cases e; done)
    refine ⟨_, rfl, v, .ty "int", _, _, _, rfl, .ty _, ty, kit_int L d, _, rfl, ite_or (fun e => ?_) fun e2 => ?_⟩
    · cases d <;> first | exact q | (cases e; done) | (cases e1; done)
    refine ⟨_, rfl, v, .ty "str", _, _, _, rfl, .ty _, ty, kit_str L d, _, rfl, ite_or (fun e => ?_) fun e3 => ?_⟩
    · cases d <;> first | exact q | (cases e; done)
    exact ⟨_, rfl, _, rfl, a, S, v, d, rfl, hS, hv, ho, q⟩
def spLC : Sp := fun vs H Q _ => ∃ (o x y : Str), vs = [.str o, .str x, .str y] ∧ o ∈ ordsS ∧ Q (.bl (cmpS o x y)) H
theorem ok_law_compared (L : Lib P K mg A) : FnOk P w K mg base CX0 1 L.law_compared.f L.law_compared.fd ["operator", "x", "y"] spLC := by
  refine L.law_compared.F.ok sc_law_compared (fun vs H Q E h => ?_) (fun cdv A' outer s H vs Q E hr h => ?_)
  · obtain ⟨o, x, y, rfl, _⟩ := h
    rfl
  · obtain ⟨o, x, y, rfl, ho, q'⟩ := h
    refine ⟨_, (pss_cons (ps_if (pt_cmpR op_eq (pv 0) pe_str (nomark _))
        (pss_one (ps_ret (pe_cmpR op_lt_str (pv 1) (pv 2) (nomark _))))
        pss_nil)
      (pss_cons (ps_if (pt_cmpR op_eq (pv 0) pe_str (nomark _))
        (pss_one (ps_ret (pe_cmpR op_le_str (pv 1) (pv 2) (nomark _))))
        pss_nil)
      (pss_cons (ps_if (pt_cmpR op_eq (pv 0) pe_str (nomark _))
        (pss_one (ps_ret (pe_cmpR op_gt_str (pv 1) (pv 2) (nomark _))))
        pss_nil)
      (pss_one (ps_ret (pe_cmpR op_ge_str (pv 1) (pv 2) (nomark _))))))), ?_⟩
    unfold ordsS at ho
    simp only [List.mem_cons, List.not_mem_nil, or_false] at ho
    refine ⟨_, rfl, rfl, _, rfl, ?_⟩
    rcases ho with rfl | rfl | rfl | rfl
    · exact ifT (by decide +kernel) ⟨_, rfl, _, rfl, _, _, rfl, rfl, q'⟩
    · exact ifF (by decide +kernel) ⟨_, rfl, rfl, _, rfl, ifT (by decide +kernel) ⟨_, rfl, _, rfl, _, _, rfl, rfl, q'⟩⟩
    · exact ifF (by decide +kernel) ⟨_, rfl, rfl, _, rfl, ifF (by decide +kernel) ⟨_, rfl, rfl, _, rfl, ifT (by decide +kernel) ⟨_, rfl, _, rfl, _, _, rfl, rfl, q'⟩⟩⟩
    · exact ifF (by decide +kernel) ⟨_, rfl, rfl, _, rfl, ifF (by decide +kernel) ⟨_, rfl, rfl, _, rfl, ifF (by decide +kernel) ⟨_, rfl, _, rfl, _, _, rfl, rfl, q'⟩⟩⟩
def spText (K : PySem.W.Frag) : Sp := fun vs H Q _ => ∃ (a p : Addr) (ns : List Int), vs = [.ref p] ∧ StL K H a p ns ∧ ∀ H' z, Keep p H H' → StL K H' a p ns → z.length ≤ 999 → PyData.strOk z = true → Q (.str z) H'
theorem ok_law_text (L : Lib P K mg A) : FnOk P w K mg base CX0 4 L.law_text.f L.law_text.fd ["state"] (spText K) := by
  have G_law_draw : FnOk P w K mg base CX0 2 L.law_draw.f L.law_draw.fd ["state", "many"] (spDraw K) := ok_law_draw L
  have G_law_pick : FnOk P w K mg base CX0 3 L.law_pick.f L.law_pick.fd ["state", "row"] (spPick K) := ok_law_pick L
  refine L.law_text.F.ok sc_law_text (fun vs H Q E h => ?_) (fun cdv A' outer s H vs Q E hr h => ?_)
  · obtain ⟨a, p, ns, rfl, _⟩ := h
    rfl
  · obtain ⟨a, p, ns, rfl, st, q⟩ := h
    have nd := sc_law_text.nd
    refine ⟨_, (pss_cons (ps_set (i := 1) sc_law_text.nd rfl (.inl rfl) pe_str)
      (pss_cons (ps_set (i := 2) sc_law_text.nd rfl (.inl rfl) (pe_call G_law_pick (hr.mono (by omega)) (by rfl) L.law_pick.g L.law_pick.F.kp L.law_pick.b .nil pass0 (pa_cons (pv 0) (pa_cons (pe_tup (pa_cons pe_int (pa_cons pe_int (pa_cons pe_int (pa_cons pe_int pa_nil))))) pa_nil))))
      (pss_cons (ps_if (pt_cmpR op_eq (pe_call G_law_draw (hr.mono (by omega)) (by rfl) L.law_draw.g L.law_draw.F.kp L.law_draw.b .nil pass0 (pa_cons (pv 0) (pa_cons pe_int pa_nil))) pe_int (nomark _))
        (pss_cons (ps_set (i := 2) sc_law_text.nd rfl (.inl rfl) (pe_op op_add pe_int (pe_call G_law_draw (hr.mono (by omega)) (by rfl) L.law_draw.g L.law_draw.F.kp L.law_draw.b .nil pass0 (pa_cons (pv 0) (pa_cons pe_int pa_nil)))))
      (pss_one (ps_ret (pe_op op_mul_str (pe_call G_law_pick (hr.mono (by omega)) (by rfl) L.law_pick.g L.law_pick.F.kp L.law_pick.b .nil pass0 (pa_cons (pv 0) (pa_cons (pe_tup (pa_cons pe_str (pa_cons pe_str (pa_cons pe_str pa_nil)))) pa_nil))) (pv 2)))))
        pss_nil)
      (pss_cons (ps_set (i := 3) sc_law_text.nd rfl (.inl rfl) pe_str)
      (pss_cons (ps_for PassesOwn.never rfl (pi_range1 (by rfl) L.z_range (pa_cons (pv 2) pa_nil)) (pg_name (i := 4) sc_law_text.nd rfl (.inl rfl))
        (pss_one (ps_set (i := 3) sc_law_text.nd rfl (.inl rfl) (pe_op op_add_str (pv 3) (pe_ix ix_str (pv 1) (pe_call G_law_draw (hr.mono (by omega)) (by rfl) L.law_draw.g L.law_draw.F.kp L.law_draw.b .nil pass0 (pa_cons (pv 0) (pa_cons (pe_callB call_len_str (by rfl) L.z_len PySem.boot_len (pa_cons (pv 1) pa_nil)) pa_nil))) (fun _ _ => rfl))))))
      (pss_one (ps_ret (pv 3)))))))), ?_⟩
    have hz : ∀ n : Nat, n ≤ 1000000 → n ≤ sizeLine := fun n h => by rw [sizeLine_eq]; omega
    refine ⟨_, rfl, (by show 4 ≤ sizeLine; decide), fun T nT => ?_⟩
    have s1 := same_upd (o := .tup [.int 0, .int 1, .int 3, .int 12]) nT
    refine ⟨a, p, T, ns, _, rfl, st.same s1, .inl (.inl upd_same), (by show 0 < 4; decide), (by show 4 ≤ 100; decide), fun H2 mv hmv k2 st2 => ?_⟩
    have k12 : Keep p H H2 := (My.Same.keep s1).trans k2
    obtain ⟨mo, rfl, hmo⟩ : ∃ mo : Nat, mv = .int (mo : Nat) ∧ mo ≤ 12 := by
      simp only [List.mem_cons, List.not_mem_nil, or_false] at hmv
      rcases hmv with rfl | rfl | rfl | rfl
      · exact ⟨0, rfl, by decide⟩
      · exact ⟨1, rfl, by decide⟩
      · exact ⟨3, rfl, by decide⟩
      · exact ⟨12, rfl, by decide⟩
    refine ⟨_, rfl, a, p, ns, 9, rfl, st2, by decide, by decide, fun H3 r k3 st3 r0 r9 => ⟨rfl, _, rfl, ite_or (fun e => ?_) fun e => ?_⟩⟩
    · refine ⟨_, rfl, a, p, ns, 500, rfl, st3, by decide, by decide, fun H4 r4 k4 st4 r40 r49 => ?_⟩
      obtain ⟨r', rfl⟩ : ∃ r' : Nat, r4 = (r' : Int) := ⟨r4.toNat, by omega⟩
      refine ⟨_, _, rfl, rfl, ?_⟩
      refine ⟨_, rfl, (by show 3 ≤ sizeLine; decide), fun T2 nT2 => ?_⟩
      have s5 := same_upd (o := .tup [.str "a", .str "b", .str "~"]) nT2
      refine ⟨a, p, T2, ns, _, rfl, st4.same s5, .inl (.inl upd_same), (by show 0 < 3; decide), (by show 3 ≤ 100; decide), fun H6 zv hzv k6 st6 => ?_⟩
      obtain ⟨z, rfl, hz1, hzk⟩ : ∃ z : Str, zv = .str z ∧ z.length = 1 ∧ PyData.strOk z = true := by
        simp only [List.mem_cons, List.not_mem_nil, or_false] at hzv
        rcases hzv with rfl | rfl | rfl
        · exact ⟨_, rfl, by decide +kernel, by decide +kernel⟩
        · exact ⟨_, rfl, by decide +kernel, by decide +kernel⟩
        · exact ⟨_, rfl, by decide +kernel, by decide +kernel⟩
      have e5 : (500 : Int) + (r' : Nat) = ((500 + r' : Nat) : Int) := by omega
      have ml := mul_one_len (n := 500 + r') hz1
      have mk := mul_one_ok (n := 500 + r') hz1 (by omega)
      have mo := ok_mul (n := 500 + r') hzk
      rw [← e5] at ml mk mo
      exact ⟨_, rfl, z, _, rfl, rfl, mk, q H6 _ (((k12.trans k3).trans k4).trans ((My.Same.keep s5).trans k6)) st6 (by omega) mo⟩
    · refine ⟨_, rfl, _, rfl, by omega, by omega, for_range (n := mo) (fun j σ H' => ∃ (yk : Option V) (z : Str), σ = [some (.ref p), some (.str "abcXYZ 019_~!\n"), some (.int (mo : Nat)), some (.str z), yk] ∧ Keep p H H' ∧ StL K H' a p ns ∧ z.length = j ∧ PyData.strOk z = true) ⟨none, _, rfl, k12.trans k3, st3, rfl, by decide +kernel⟩ ?_ ?_⟩
      · rintro j σ H4 hj ⟨yk, z, rfl, k4, st4, hzl, hzk⟩
        have l12 : (("abcXYZ 019_~!\n" : Str)).length = 14 := by decide +kernel
        refine ⟨_, rfl, _, rfl, _, rfl, _, rfl, "abcXYZ 019_~!\n", rfl, hz _ (by rw [l12]; decide), a, p, ns, _, rfl, st4, by rw [l12]; decide, by rw [l12]; decide, fun H5 c k5 st5 c0 c1 => ?_⟩
        obtain ⟨c', rfl⟩ : ∃ c' : Nat, c = (c' : Int) := ⟨c.toNat, by omega⟩
        rw [l12] at c1
        have hc : c' < (("abcXYZ 019_~!\n" : Str)).cps.toList.length := by
          have : (("abcXYZ 019_~!\n" : Str)).cps.toList.length = 14 := by decide +kernel
          omega
        refine ⟨"abcXYZ 019_~!\n", _, _, rfl, rfl, hz _ (by rw [l12]; decide), atI_nat (List.getElem?_eq_getElem hc), _, _, rfl, rfl, hz _ (by show z.length + 1 ≤ _; omega), _, _, rfl, k4.trans k5, st5, by rw [Str.length_append, hzl]; rfl, ok_app hzk (ok_at (by decide +kernel) hc)⟩
      · rintro σ H4 ⟨yk, z, rfl, k4, st4, hzl, hzk⟩
        exact ⟨_, rfl, q H4 z k4 st4 (by omega) hzk⟩
def okS (S : St) : Dv → Prop
  | .obj n => n < S.things.length
  | .str x => x.length ≤ 999 ∧ PyData.strOk x = true
  | _ => True
theorem okS.v {S : St} {d : Dv} (h : okS S d) : okV S d := by
  cases d with
  | obj n => exact h
  | _ => trivial
def spVal (P : Program) (w : World) (K : PySem.W.Frag) (A : Ads) : Sp := fun vs H Q _ => ∃ (a p : Addr) (ns : List Int) (H7 : Hp) (sa : Sa) (S : St), vs = [.ref p, .ref sa.s] ∧ LI P w K A a p ns H7 H sa S ∧ 0 < S.things.length ∧ S.things.length ≤ 100000 ∧
  ∀ H' v d, Keep p H H' → LI P w K A a p ns H7 H' sa S → Has A H' v d → okS S d → Q v H'
theorem ok_law_value (L : Lib P K mg A) : FnOk P w K mg base CX0 5 L.law_value.f L.law_value.fd ["state", "store"] (spVal P w K A) := by
  have G_law_draw : FnOk P w K mg base CX0 2 L.law_draw.f L.law_draw.fd ["state", "many"] (spDraw K) := ok_law_draw L
  have G_law_pick : FnOk P w K mg base CX0 3 L.law_pick.f L.law_pick.fd ["state", "row"] (spPick K) := ok_law_pick L
  have G_law_text : FnOk P w K mg base CX0 4 L.law_text.f L.law_text.fd ["state"] (spText K) := ok_law_text L
  have G_Ref_init : FnOk P w K mg base CX0 1 L.Ref_init.f L.Ref_init.fd ["self", "number"] (spI1 A.Ref "number") := ok_Ref_init L
  have G_Builtin_init : FnOk P w K mg base CX0 1 L.Builtin_init.f L.Builtin_init.fd ["self", "name"] (spI1 A.Builtin "name") := ok_Builtin_init L
  refine L.law_value.F.ok sc_law_value (fun vs H Q E h => ?_) (fun cdv A' outer s H vs Q E hr h => ?_)
  · obtain ⟨a, p, ns, H7, sa, S, rfl, _⟩ := h
    rfl
  · obtain ⟨a, p, ns, H7, sa, S, rfl, I, m0, m1, q⟩ := h
    have nd := sc_law_value.nd
    refine ⟨_, (pss_cons (ps_set (i := 2) sc_law_value.nd rfl (.inl rfl) (pe_call G_law_draw (hr.mono (by omega)) (by rfl) L.law_draw.g L.law_draw.F.kp L.law_draw.b .nil pass0 (pa_cons (pv 0) (pa_cons pe_int pa_nil))))
      (pss_cons (ps_if (pt_cmpR op_eq (pv 2) pe_int (nomark _))
        (pss_one (ps_ret (pe_call G_law_pick (hr.mono (by omega)) (by rfl) L.law_pick.g L.law_pick.F.kp L.law_pick.b .nil pass0 (pa_cons (pv 0) (pa_cons (pe_tup (pa_cons pe_non (pa_cons pe_bl (pa_cons pe_bl pa_nil)))) pa_nil)))))
        pss_nil)
      (pss_cons (ps_if (pt_cmpR op_eq (pv 2) pe_int (nomark _))
        (pss_one (ps_ret (pe_call G_law_draw (hr.mono (by omega)) (by rfl) L.law_draw.g L.law_draw.F.kp L.law_draw.b .nil pass0 (pa_cons (pv 0) (pa_cons pe_int pa_nil)))))
        pss_nil)
      (pss_cons (ps_if (pt_cmpR op_lt (pv 2) pe_int (nomark _))
        (pss_one (ps_ret (pe_call G_law_text (hr.mono (by omega)) (by rfl) L.law_text.g L.law_text.F.kp L.law_text.b .nil pass0 (pa_cons (pv 0) pa_nil))))
        pss_nil)
      (pss_cons (ps_if (pt_cmpR op_eq (pv 2) pe_int (nomark _))
        (pss_one (ps_ret (pe_make L.Builtin_init.m G_Builtin_init (hr.mono (by omega)) (by rfl) L.c_Builtin.g L.Builtin_init.b .nil pass0 (pa_cons pe_str pa_nil))))
        pss_nil)
      (pss_one (ps_ret (pe_make L.Ref_init.m G_Ref_init (hr.mono (by omega)) (by rfl) L.c_Ref.g L.Ref_init.b .nil pass0 (pa_cons (pe_call G_law_draw (hr.mono (by omega)) (by rfl) L.law_draw.g L.law_draw.F.kp L.law_draw.b .nil pass0 (pa_cons (pv 0) (pa_cons (pe_callB call_len_seq (by rfl) L.z_len PySem.boot_len (pa_cons (pe_fld (pv 1) rfl) pa_nil)) pa_nil))) pa_nil))))))))), ?_⟩
    refine ⟨_, rfl, a, p, ns, 8, rfl, I.st, by decide, by decide, fun H1 r k1 st1 r0 r9 => ?_⟩
    have I1 := I.draw k1 st1
    refine ⟨_, rfl, rfl, _, rfl, ite_or (fun e => ?_) fun e0 => ?_⟩
    · refine ⟨_, rfl, (by show 3 ≤ sizeLine; decide), fun T nT => ?_⟩
      have s2 := same_upd (o := .tup [.non, .bl true, .bl false]) nT
      have I2 := I1.same s2
      refine ⟨a, p, T, ns, _, rfl, I2.st, .inl (.inl upd_same), (by show 0 < 3; decide), (by show 3 ≤ 100; decide), fun H3 v hv k3 st3 => ?_⟩
      have kk : Keep p H H3 := (k1.trans (My.Same.keep s2)).trans k3
      have I3 := I2.draw k3 st3
      simp only [List.mem_cons, List.not_mem_nil, or_false] at hv
      rcases hv with rfl | rfl | rfl
      · exact q H3 _ .non kk I3 rfl trivial
      · exact q H3 _ (.bl true) kk I3 rfl trivial
      · exact q H3 _ (.bl false) kk I3 rfl trivial
    refine ⟨_, rfl, rfl, _, rfl, ite_or (fun e => ?_) fun e1 => ?_⟩
    · exact ⟨_, rfl, a, p, ns, 5, rfl, I1.st, by decide, by decide, fun H2 r2 k2 st2 _ _ => q H2 _ (.int r2) (k1.trans k2) (I1.draw k2 st2) rfl trivial⟩
    refine ⟨_, rfl, _, _, rfl, rfl, _, rfl, ite_or (fun e => ?_) fun e2 => ?_⟩
    · exact ⟨_, rfl, a, p, ns, rfl, I1.st, fun H2 z k2 st2 hz hzk => q H2 _ (.str z) (k1.trans k2) (I1.draw k2 st2) rfl ⟨hz, hzk⟩⟩
    refine ⟨_, rfl, rfl, _, rfl, ite_or (fun e => ?_) fun e3 => ?_⟩
    · intro x dx nx ndx ndxx
      refine ⟨x, dx, _, rfl, upd_same, fun H2 k2 hx => ⟨rfl, ?_⟩⟩
      have s2 := Same.made nx ndx k2
      exact q H2 _ (.bi "print") (k1.trans (My.Same.keep s2)) (I1.same s2) ⟨x, dx, rfl, hx⟩ trivial
    · obtain ⟨dsx, hs1⟩ := I1.sm.s_
      have hlx := I1.sm.lx
      refine ⟨_, rfl, _, rfl, sa.s, A.Store, dsx, _, _, rfl, hs1, L.c_Store.cl, L.n_Store_things, st_things _ _ _ _, sa.t, _, rfl, .inl (SqL.of I1.sm.t_), a, p, ns, _, rfl, I1.st, ?_, ?_, fun H2 m k2 st2 m0' m7 => ?_⟩
      · rw [List.length_map, hlx]; omega
      · rw [List.length_map, hlx]; omega
      rw [List.length_map, hlx] at m7
      obtain ⟨m', rfl⟩ : ∃ m' : Nat, m = (m' : Int) := ⟨m.toNat, by omega⟩
      have I2 := I1.draw k2 st2
      intro x dx nx ndx ndxx
      refine ⟨x, dx, _, rfl, upd_same, fun H3 k3 hx => ⟨rfl, ?_⟩⟩
      have s3 := Same.made nx ndx k3
      exact q H3 _ (.obj m') ((k1.trans k2).trans (My.Same.keep s3)) (I2.same s3) ⟨x, dx, rfl, hx⟩ (by show m' < S.things.length; omega)
end
end My
namespace My
open PySem L2 SX XT XS XE XD XL
open C8 (pss_cut tCut cutS_slice pe_gc)
def othT (m : Nat) : Th → Prop
  | .parts ds => ds.length ≤ 1000 ∧ ∀ d ∈ ds, ∃ i, d = Dv.int i
  | .inst o _ => ∃ k, o = .obj k ∧ k < m
  | .kin _ _ _ => False
  | _ => True
structure G18 (S : St) (pars : List Dv) : Prop where
  kin : ∀ (k : Nat) par, pars[k]? = some par → (∃ nm ms, S.things[k]? = some (.kin nm par ms)) ∧ (par = .non ∨ ∃ j, par = .obj j ∧ j < k)
  oth : ∀ (n : Nat) t, pars.length ≤ n → S.things[n]? = some t → othT pars.length t
  le : pars.length ≤ S.things.length
theorem G18.snoc {S : St} {pars : List Dv} (g : G18 S pars) {t : Th} (h : othT pars.length t) : G18 { S with things := S.things ++ [t] } pars := by
  refine ⟨fun k par e => ?_, fun n t' hn e => ?_, by show _ ≤ (S.things ++ [t]).length; rw [List.length_append]; have := g.le; omega⟩
  · obtain ⟨⟨nm, ms, e1⟩, h2⟩ := g.kin k par e
    refine ⟨⟨nm, ms, ?_⟩, h2⟩
    show (S.things ++ [t])[k]? = _
    rw [List.getElem?_append_left (List.getElem?_eq_some_iff.mp e1).1]
    exact e1
  · have e : (S.things ++ [t])[n]? = some t' := e
    by_cases hl : n < S.things.length
    · rw [List.getElem?_append_left hl] at e
      exact g.oth n t' hn e
    · rw [List.getElem?_append_right (by omega)] at e
      have := List.mem_of_getElem? e
      rw [List.mem_singleton] at this
      rw [this]
      exact h
theorem G18.kinS {S : St} {pars : List Dv} (g : G18 S pars) (hl : S.things.length = pars.length) {nm : Str} {par : Dv} (hp : par = .non ∨ ∃ j, par = .obj j ∧ j < pars.length) : G18 { S with things := S.things ++ [.kin nm par []] } (pars ++ [par]) := by
  refine ⟨fun k par' e => ?_, fun n t' hn e => ?_, by show _ ≤ (S.things ++ [_]).length; rw [List.length_append, List.length_append, hl]; exact Nat.le_refl _⟩
  · by_cases hk : k < pars.length
    · rw [List.getElem?_append_left hk] at e
      obtain ⟨⟨nm', ms, e1⟩, h2⟩ := g.kin k par' e
      refine ⟨⟨nm', ms, ?_⟩, h2⟩
      show (S.things ++ [_])[k]? = _
      rw [List.getElem?_append_left (by omega)]
      exact e1
    · have hk2 : k = pars.length := by
        have := (List.getElem?_eq_some_iff.mp e).1
        rw [List.length_append, List.length_singleton] at this
        omega
      subst hk2
      rw [List.getElem?_append_right (Nat.le_refl _), Nat.sub_self] at e
      cases e
      refine ⟨⟨nm, [], ?_⟩, hp⟩
      show (S.things ++ [_])[pars.length]? = _
      rw [← hl, List.getElem?_append_right (Nat.le_refl _), Nat.sub_self]
      rfl
  · have h1 := (List.getElem?_eq_some_iff.mp e).1
    have h1 : n < (S.things ++ [Th.kin nm par []]).length := h1
    rw [List.length_append, List.length_singleton] at h1 hn
    omega
theorem G18.kins {S : St} {pars : List Dv} (g : G18 S pars) : Kins S pars.length := ⟨g.le, fun k hk => by
  obtain ⟨⟨nm, ms, e1⟩, h2⟩ := g.kin k _ (List.getElem?_eq_getElem hk)
  exact ⟨nm, _, ms, e1, h2⟩⟩
theorem G18.owns {S : St} {pars : List Dv} (g : G18 S pars) : Owns S pars.length := fun n o ns e => by
  by_cases hn : n < pars.length
  · obtain ⟨⟨nm, ms, e1⟩, _⟩ := g.kin n _ (List.getElem?_eq_getElem hn)
    rw [e] at e1
    cases e1
  · exact g.oth n _ (by omega) e
theorem G18.cls {S : St} {pars : List Dv} (g : G18 S pars) {n : Nat} (h : n < pars.length) : kc S (.obj n) = 8 := by
  obtain ⟨⟨nm, ms, e1⟩, _⟩ := g.kin n _ (List.getElem?_eq_getElem h)
  show kcT S.things[n]? = 8
  rw [e1]
  rfl
def intsV (n : Nat) : List V := (List.range n).map fun k => V.int (k : Nat)
def intsD (n : Nat) : List Dv := (List.range n).map fun k => Dv.int (k : Nat)
theorem hs_ints {A : Ads} {H : Hp} : ∀ l : List Nat, Hs A H (l.map fun k => V.int (k : Nat)) (l.map fun k => Dv.int (k : Nat))
  | [] => trivial
  | _ :: r => ⟨rfl, hs_ints r⟩
/-- a list of the law's own -/
structure OL (H7 : Hp) (p : Addr) (sa : Sa) (D : Addr) : Prop where
  n7 : H7 D = none
  no : ¬ sa.own D
  np : D ≠ p
section
variable {P : Program} {w : World} {K : PySem.W.Frag} {mg : Str → Option Value} {base : Heap} {A : Ads} {a p D : Addr} {ns : List Int} {H7 H H' : Hp} {sa sa' : Sa} {S S' : St}
theorem OL.new (L : Lib P K mg A) (I : LI P w K A a p ns H7 H sa S) (nD : H D = none) : OL H7 p sa D := by
  obtain ⟨xs, hp⟩ := I.hp
  exact ⟨I.h7 nD, I.sm.fresh L nD, (ne_of_none hp nD).symm⟩
theorem OL.ev (o : OL H7 p sa D) (ev : Ev sa sa' H H') {u : HO} (e : H D = some u) : OL H7 p sa' D := ⟨o.n7, ev.nin e o.no, o.np⟩
def spStore (P : Program) (w : World) (K : PySem.W.Frag) (A : Ads) : Sp := fun vs H Q _ => ∃ (a p : Addr) (ns : List Int), vs = [.ref p] ∧ StL K H a p ns ∧
  ∀ H' q b sa S pars us, LI P w K A a p ns H H' sa S → G18 S pars → 0 < pars.length → pars.length ≤ 10 → S.things.length ≤ 50 → H' q = some (.lst [.ref sa.s, .ref b]) → OL H p sa q → H' b = some (.lst us) → Hs A H' us pars → OL H p sa b → Q (.ref q) H'
theorem ok_law_store (L : Lib P K mg A) : FnOk P w K mg base CX0 6 L.law_store.f L.law_store.fd ["state"] (spStore P w K A) := by
  have G_law_draw : FnOk P w K mg base CX0 2 L.law_draw.f L.law_draw.fd ["state", "many"] (spDraw K) := ok_law_draw L
  have G_law_pick : FnOk P w K mg base CX0 3 L.law_pick.f L.law_pick.fd ["state", "row"] (spPick K) := ok_law_pick L
  have G_Store_init : FnOk P w K mg base CX0 3 L.Store_init.f L.Store_init.fd ["self", "lines"] (spSI P w K A) := ok_Store_init L
  have G_Store_make : FnOk P w K mg base CX0 3 L.Store_make.f L.Store_make.fd ["self", "thing"] (spMake P w A) := ok_Store_make L
  have G_Ref_init : FnOk P w K mg base CX0 1 L.Ref_init.f L.Ref_init.fd ["self", "number"] (spI1 A.Ref "number") := ok_Ref_init L
  have G_Instance_init : FnOk P w K mg base CX0 1 L.Instance_init.f L.Instance_init.fd ["self", "owner"] (spII A) := ok_Instance_init L
  have G_Closure_init : FnOk P w K mg base CX0 1 L.Closure_init.f L.Closure_init.fd ["self", "number", "wanted", "scope"] (spCI A) := ok_Closure_init L
  have G_make_class : FnOk P w K mg base CX0 4 L.make_class.f L.make_class.fd ["store", "name", "parent"] (spMkC P w A) := ok_make_class L
  have G_make_list : FnOk P w K mg base CX0 4 L.make_list.f L.make_list.fd ["store", "values"] (spML P w K A) := ok_make_list L
  have G_make_map : FnOk P w K mg base CX0 4 L.make_map.f L.make_map.fd ["store", "pairs"] (spMMp P w K A) := ok_make_map L
  refine L.law_store.F.ok sc_law_store (fun vs H Q E h => ?_) (fun cdv A' outer s H vs Q E hr h => ?_)
  · obtain ⟨a, p, ns, rfl, _⟩ := h
    rfl
  · obtain ⟨a, p, ns, rfl, st1, q⟩ := h
    have nd := sc_law_store.nd
    refine ⟨_, (pss_cons (ps_set (i := 1) sc_law_store.nd rfl (.inl rfl) (pe_make L.Store_init.m G_Store_init (hr.mono (by omega)) (by rfl) L.c_Store.g L.Store_init.b .nil pass0 (pa_cons (pe_lst pa_nil) pa_nil)))
      (pss_cons (ps_set (i := 2) sc_law_store.nd rfl (.inl rfl) (pe_lst (pa_cons pe_str pa_nil)))
      (pss_cons (ps_set (i := 3) sc_law_store.nd rfl (.inl rfl) (pe_lst (pa_cons pe_non pa_nil)))
      (pss_cons (ps_for PassesOwn.never rfl (pi_range1 (by rfl) L.z_range (pa_cons (pe_op op_add pe_int (pe_call G_law_draw (hr.mono (by omega)) (by rfl) L.law_draw.g L.law_draw.F.kp L.law_draw.b .nil pass0 (pa_cons (pv 0) (pa_cons pe_int pa_nil)))) pa_nil)) (pg_name (i := 4) sc_law_store.nd rfl (.inl rfl))
        (pss_cons (ps_set (i := 5) sc_law_store.nd rfl (.inl rfl) (pe_op op_sub (pe_call G_law_draw (hr.mono (by omega)) (by rfl) L.law_draw.g L.law_draw.F.kp L.law_draw.b .nil pass0 (pa_cons (pv 0) (pa_cons (pe_op op_add (pe_callB call_len_seq (by rfl) L.z_len PySem.boot_len (pa_cons (pv 3) pa_nil)) pe_int) pa_nil))) pe_int))
      (pss_cons (ps_set (i := 6) sc_law_store.nd rfl (.inl rfl) pe_non)
      (pss_cut (ps_if (pt_cmpR op_ge (pv 5) pe_int (nomark _))
        (pss_one (ps_set (i := 6) sc_law_store.nd rfl (.inl rfl) (pe_make L.Ref_init.m G_Ref_init (hr.mono (by omega)) (by rfl) L.c_Ref.g L.Ref_init.b .nil pass0 (pa_cons (pv 5) pa_nil))))
        pss_nil)
      (pss_cons (ps_set (i := 7) sc_law_store.nd rfl (.inl rfl) (pe_call G_make_class (hr.mono (by omega)) (by rfl) L.make_class.g L.make_class.F.kp L.make_class.b .nil pass0 (pa_cons (pv 1) (pa_cons pe_str (pa_cons (pv 6) pa_nil)))))
      (pss_cons (ps_expr (pe_bm PySem.F.plainAttrs_list PySem.F.slot_list_append PySem.F.type_list_append mt_append (pv 2) (pa_cons pe_str pa_nil)))
      (pss_cons (ps_expr (pe_bm PySem.F.plainAttrs_list PySem.F.slot_list_append PySem.F.type_list_append mt_append (pv 3) (pa_cons (pv 6) pa_nil)))
      (pss_one (ps_if (pt_cmpR op_ne (pe_fld (pv 7) rfl) (pe_op op_sub (pe_callB call_len_seq (by rfl) L.z_len PySem.boot_len (pa_cons (pv 3) pa_nil)) pe_int) (nomark _))
        (pss_one (ps_ret pe_non))
        pss_nil)))))))))
      (pss_cons (ps_for PassesOwn.never rfl (pi_range1 (by rfl) L.z_range (pa_cons (pe_op op_add pe_int (pe_call G_law_draw (hr.mono (by omega)) (by rfl) L.law_draw.g L.law_draw.F.kp L.law_draw.b .nil pass0 (pa_cons (pv 0) (pa_cons pe_int pa_nil)))) pa_nil)) (pg_name (i := 4) sc_law_store.nd rfl (.inl rfl))
        (pss_one (ps_expr (pe_meth (pv 1) L.c_Store.cl L.Store_make.m G_Store_make (hr.mono (by omega)) L.Store_make.b .nil pass0 (pa_cons (pe_make L.Instance_init.m G_Instance_init (hr.mono (by omega)) (by rfl) L.c_Instance.g L.Instance_init.b .nil pass0 (pa_cons (pe_make L.Ref_init.m G_Ref_init (hr.mono (by omega)) (by rfl) L.c_Ref.g L.Ref_init.b .nil pass0 (pa_cons (pe_call G_law_draw (hr.mono (by omega)) (by rfl) L.law_draw.g L.law_draw.F.kp L.law_draw.b .nil pass0 (pa_cons (pv 0) (pa_cons (pe_callB call_len_seq (by rfl) L.z_len PySem.boot_len (pa_cons (pv 3) pa_nil)) pa_nil))) pa_nil)) pa_nil)) pa_nil)))))
      (pss_cons (ps_for PassesOwn.never rfl (pi_range1 (by rfl) L.z_range (pa_cons (pe_op op_add pe_int (pe_call G_law_draw (hr.mono (by omega)) (by rfl) L.law_draw.g L.law_draw.F.kp L.law_draw.b .nil pass0 (pa_cons (pv 0) (pa_cons pe_int pa_nil)))) pa_nil)) (pg_name (i := 4) sc_law_store.nd rfl (.inl rfl))
        (pss_one (ps_expr (pe_call G_make_list (hr.mono (by omega)) (by rfl) L.make_list.g L.make_list.F.kp L.make_list.b .nil pass0 (pa_cons (pv 1) (pa_cons (pe_lc (own := [("j", 8)]) (g := gName 8) (tt := tYes) (by rfl) sc_law_store.nd (pi_range1 (by rfl) L.z_range (pa_cons (pe_call G_law_pick (hr.mono (by omega)) (by rfl) L.law_pick.g L.law_pick.F.kp L.law_pick.b .nil pass0 (pa_cons (pv 0) (pa_cons (pe_tup (pa_cons pe_int (pa_cons pe_int (pa_cons pe_int (pa_cons pe_int pa_nil))))) pa_nil))) pa_nil)) (blkOk_by (own := [("j", 8)]) (N := ["state", "store", "kinds", "above", "k", "parent", "ref", "made", "j"]) (sc := defScope (top 52)) (by decide +kernel)) (fun _ _ _ _ _ => (pg_name (i := 8) sc_law_store.nd rfl (.inl rfl))) (fun _ _ _ _ _ => pts_nil) (fun _ _ _ _ _ => (pv 8))) pa_nil))))))
      (pss_cons (ps_expr (pe_call G_make_map (hr.mono (by omega)) (by rfl) L.make_map.g L.make_map.F.kp L.make_map.b .nil pass0 (pa_cons (pv 1) (pa_cons (pe_lst pa_nil) pa_nil))))
      (pss_cons (ps_expr (pe_meth (pv 1) L.c_Store.cl L.Store_make.m G_Store_make (hr.mono (by omega)) L.Store_make.b .nil pass0 (pa_cons (pe_make L.Closure_init.m G_Closure_init (hr.mono (by omega)) (by rfl) L.c_Closure.g L.Closure_init.b .nil pass0 (pa_cons pe_int (pa_cons pe_int (pa_cons (pe_tup pa_nil) pa_nil)))) pa_nil)))
      (pss_one (ps_ret (pe_lst (pa_cons (pv 1) (pa_cons (pv 3) pa_nil))))))))))))), ?_⟩
    refine ⟨Nat.zero_le _, fun l nl b db nb ndb ndbb => ?_⟩
    have sm0 : Same H (upd (upd (upd H l (.lst [])) db (.own b)) b (.ins A.Store db [])) := fun c u e => by
      have e1 : upd H l (.lst []) c = some u := by rw [upd_ne (ne_of_none e nl)]; exact e
      rw [upd_ne (ne_of_none e1 nb), upd_ne (ne_of_none e1 ndb)]
      exact e1
    have nl' : ∀ c, upd H l (.lst []) c = none → c ≠ l := fun c e z => by rw [z, upd_same] at e; cases e
    have nb1 : H b = none := by have := nl' b nb; rw [upd_ne this] at nb; exact nb
    refine ⟨b, db, l, [], rfl, upd_same, SqL.of (by rw [upd_ne (nl' b nb).symm, upd_ne (nl' db ndb).symm]; exact upd_same), (nl' b nb).symm, fun H2 sa hsb k2 sm2 fr2 => ⟨rfl, ?_⟩⟩
    subst hsb
    have s2 : Same H H2 := fun c u e => k2 _ _ (sm0 _ _ e) fun z => by rw [z, nb1] at e; cases e
    have ownN : ∀ c, sa.own c → H c = none := fun c z => by
      rcases fr2 c z with rfl | q
      · exact nb1
      · exact sm0.free q
    have I2 : LI P w K A a p ns H H2 sa (stO []) := ⟨st1, My.Same.keep s2, st1.same s2, sm2, ownN⟩
    refine ⟨by show 1 ≤ sizeLine; decide, fun kl nkl => ⟨by show 1 ≤ sizeLine; decide, fun al nal => ?_⟩⟩
    have s3 := same_upd (o := .lst [.str "class"]) nkl
    have s4 := same_upd (o := .lst [V.non]) nal
    have I3 := I2.same s3
    have I4 := I3.same s4
    have okl : OL H p sa kl := OL.new L I2 nkl
    have oal : OL H p sa al := OL.new L I3 nal
    have nka : kl ≠ al := ne_of_none upd_same nal
    have hkl := s4 _ _ (upd_same (H := H2) (a := kl) (o := .lst [.str "class"]))
    refine ⟨_, rfl, a, p, ns, 4, rfl, I4.st, by decide, by decide, fun H5 r k5 st5 r0 r4 => ?_⟩
    have I5 := I4.draw k5 st5
    obtain ⟨m, rfl⟩ : ∃ m : Nat, r = (m : Int) := ⟨r.toNat, by omega⟩
    have em : (1 : Int) + (m : Int) = ((m + 1 : Nat) : Int) := by omega
    refine ⟨_, _, rfl, rfl, ?_⟩
    refine ⟨((m + 1 : Nat) : Int), by show [V.int (1 + (m : Int))] = [V.int ((m + 1 : Nat) : Int)]; rw [em], by omega, by omega, for_range (n := m + 1) (fun i σ H' => ∃ (y4 y5 y6 y7 : Option V) (sa' : Sa) (S' : St) (pars : List Dv) (ks us : List V), σ = [some (.ref p), some (.ref sa'.s), some (.ref kl), some (.ref al), y4, y5, y6, y7, none] ∧ LI P w K A a p ns H H' sa' S' ∧ G18 S' pars ∧ pars.length = 1 + i ∧ S'.things.length = pars.length ∧ H' kl = some (.lst ks) ∧ ks.length = 1 + i ∧ OL H p sa' kl ∧ H' al = some (.lst us) ∧ Hs A H' us pars ∧ OL H p sa' al)
      ⟨none, none, none, none, sa, stO [], [.non], _, _, rfl, I5, ⟨fun k par e => ?_, fun n t hn e => ?_, Nat.le_refl _⟩, rfl, rfl, k5 _ _ hkl okl.np, rfl, okl, k5 _ _ upd_same oal.np, ⟨rfl, trivial⟩, oal⟩ ?_ ?_⟩
    · match k, e with
      | 0, e => cases e; exact ⟨⟨_, _, rfl⟩, .inl rfl⟩
      | k + 1, e => cases e
    · match n, e with
      | 0, e => exact absurd hn (by decide)
      | n + 1, e => cases e
    · rintro i σ H6 hi ⟨y4, y5, y6, y7, sa, S, pars, ks, us, rfl, I6, g6, hpl, hsl, hkl, hks, okl, hal, hus, oal⟩
      rw [Int.zero_add]
      have hul := hus.len
      refine ⟨_, rfl, _, rfl, al, us, rfl, .inl (SqL.of hal), _, _, rfl, rfl, a, p, ns, _, rfl, I6.st, by omega, by omega, fun H7' r k7 st7 r0 r1 => ⟨_, _, rfl, rfl, ?_⟩⟩
      have I7 := I6.draw k7 st7
      have vk7 := (I6.sv k7)
      have hal7 := k7 _ _ hal oal.np
      have hkl7 := k7 _ _ hkl okl.np
      have hus7 := hus.imp fun _ _ h => h.sv vk7
      let M : List (Option V) → Hp → Prop := fun σ' H' => ∃ (rv : V) (rd : Dv), σ' = [some (.ref p), some (.ref sa.s), some (.ref kl), some (.ref al), some (.int (i : Nat)), some (.int (r - 1)), some rv, y7, none] ∧ Same H7' H' ∧ Has A H' rv rd ∧ (rd = .non ∨ ∃ j, rd = .obj j ∧ j < pars.length)
      refine ⟨M, ⟨_, rfl, _, _, rfl, rfl, _, rfl, ite_or (fun e => ?_) fun e => ⟨.non, .non, rfl, fun _ _ e => e, rfl, .inl rfl⟩⟩, ?_⟩
      · have e : (0 : Int) ≤ r - 1 := of_decide_eq_true e
        obtain ⟨r', hr'⟩ : ∃ r' : Nat, r - 1 = (r' : Int) := ⟨(r - 1).toNat, by omega⟩
        refine ⟨_, rfl, ?_⟩
        intro x dx nx ndx ndxx
        refine ⟨x, dx, _, rfl, upd_same, fun H8 k8 hx => ⟨rfl, ?_⟩⟩
        exact ⟨_, .obj r', rfl, Same.made nx ndx k8, ⟨x, dx, rfl, by rw [hx]; show some (HO.ins A.Ref dx [("number", V.int (r - 1))]) = some (HO.ins A.Ref dx [("number", V.int (r' : Nat))]); rw [hr']⟩, .inr ⟨r', rfl, by omega⟩⟩
      rintro σ' H8 ⟨rv, rd, rfl, s8, hrv, hrd⟩
      have I8 := I7.same s8
      have h8 : rd = .non ∨ kc S rd = 8 := by
        rcases hrd with rfl | ⟨j, rfl, hj⟩
        · exact .inl rfl
        · exact .inr (g6.cls hj)
      have o8 : okV S rd := by
        rcases hrd with rfl | ⟨j, rfl, hj⟩
        · trivial
        · show j < S.things.length
          have := g6.le
          omega
      refine ⟨_, rfl, _, rfl, sa, S, "C", rv, rd, rfl, I8.sm, hrv, h8, o8, by omega, fun H9 rr sa' ev9 sm9 hr9 => ?_⟩
      have I9 := I8.ev ev9 sm9
      have vk9 := Fr.vk L I8.sm ev9.fr
      have hkl9 := ev9.fr _ _ (s8 _ _ hkl7) okl.no
      have hal9 := ev9.fr _ _ (s8 _ _ hal7) oal.no
      have hus9 := (hus7.imp fun _ _ h => h.sv (Same.sv s8)).imp vk9.v
      have okl9 := okl.ev ev9 (s8 _ _ hkl7)
      have oal9 := oal.ev ev9 (s8 _ _ hal7)
      obtain ⟨I10, sv10⟩ := I9.lst (ys := ks ++ [V.str "class"]) hkl9 okl9.n7 okl9.no okl9.np
      have hal10 := sv10
      have nka10 : al ≠ kl := fun z => nka z.symm
      refine ⟨_, rfl, .inl ⟨rfl, _, SqL.of hkl9⟩, kl, ks, _, rfl, rfl, hkl9, Nat.lt_of_le_of_lt (m := 10) (by omega) (by decide), ?_⟩
      have hal11 : upd H9 kl (.lst (ks ++ [V.str "class"])) al = some (.lst us) := by rw [upd_ne nka10]; exact hal9
      obtain ⟨I11, sv11⟩ := I10.lst (ys := us ++ [rv]) hal11 oal9.n7 oal9.no oal9.np
      refine ⟨_, rfl, .inl ⟨rfl, _, SqL.of hal11⟩, _, rfl, al, us, _, rfl, rfl, hal11, Nat.lt_of_le_of_lt (m := 10) (by omega) (by decide), ?_⟩
      have hr11 := (hr9.sv sv10).sv sv11
      have hrv11 := (((vk9.v _ _ hrv)).sv sv10).sv sv11
      have hus11 := (hus9.imp fun _ _ h => h.sv sv10).imp fun _ _ h => h.sv sv11
      have hkl11 : upd (upd H9 kl (.lst (ks ++ [V.str "class"]))) al (.lst (us ++ [rv])) kl = some (.lst (ks ++ [V.str "class"])) := by rw [upd_ne nka]; exact upd_same
      have hal12 := upd_same (H := upd H9 kl (.lst (ks ++ [V.str "class"]))) (a := al) (o := .lst (us ++ [rv]))
      generalize upd (upd H9 kl (.lst (ks ++ [V.str "class"]))) al (.lst (us ++ [rv])) = H12 at I11 hr11 hrv11 hus11 hkl11 hal12
      obtain ⟨rb, drb, erb, hrb⟩ := id hr11
      cases erb
      refine ⟨_, rfl, rr, A.Ref, drb, _, _, rfl, hrb, L.c_Ref.cl, L.n_Ref_number, lk_hit, _, rfl, al, _, rfl, .inl (SqL.of hal12), _, _, rfl, rfl, rfl, _, rfl, ?_⟩
      have e0 : (!decide ((V.int ((S.things.length : Nat) : Int)) = V.int ((((us ++ [rv]).length : Nat) : Int) - 1))) = false := by
        have : ((S.things.length : Nat) : Int) = (((us ++ [rv]).length : Nat) : Int) - 1 := by
          rw [List.length_append, List.length_singleton]
          omega
        rw [this, decide_eq_true rfl]
        rfl
      exact ifF e0 ⟨_, _, _, _, sa', _, pars ++ [rd], ks ++ [V.str "class"], us ++ [rv], by rw [ev9.s]; rfl, I11, g6.kinS hsl hrd, by rw [List.length_append, hpl]; rfl, by show (S.things ++ [_]).length = _; rw [List.length_append, List.length_append, hsl]; rfl, hkl11, by rw [List.length_append, hks]; rfl, okl9, hal12, Hs.app hus11 (show Hs A H12 [rv] [rd] from ⟨hrv11, trivial⟩), oal9⟩
    · rintro σ H6 ⟨y4, y5, y6, y7, sa, S, pars, ks, us, rfl, I6, g6, hpl, hsl, hkl, hks, okl, hal, hus, oal⟩
      refine ⟨_, rfl, a, p, ns, 4, rfl, I6.st, by decide, by decide, fun H7' r k7 st7 r0 r4 => ?_⟩
      have I7 := I6.draw k7 st7
      obtain ⟨m2, rfl⟩ : ∃ m : Nat, r = (m : Int) := ⟨r.toNat, by omega⟩
      have em2 : (1 : Int) + (m2 : Int) = ((m2 + 1 : Nat) : Int) := by omega
      refine ⟨_, _, rfl, rfl, ?_⟩
      refine ⟨((m2 + 1 : Nat) : Int), by show [V.int (1 + (m2 : Int))] = [V.int ((m2 + 1 : Nat) : Int)]; rw [em2], by omega, by omega, for_range (n := m2 + 1) (fun i σ H' => ∃ (y4 : Option V) (sa' : Sa) (S' : St), σ = [some (.ref p), some (.ref sa'.s), some (.ref kl), some (.ref al), y4, y5, y6, y7, none] ∧ LI P w K A a p ns H H' sa' S' ∧ G18 S' pars ∧ S'.things.length = pars.length + i ∧ H' al = some (.lst us) ∧ Hs A H' us pars ∧ OL H p sa' al)
        ⟨y4, sa, S, rfl, I7, g6, hsl, k7 _ _ hal oal.np, hus.imp fun _ _ h => h.sv (I6.sv k7), oal⟩ ?_ ?_⟩
      · rintro i σ H8 hi ⟨y4, sa, S, rfl, I8, g8, hsl, hal, hus, oal⟩
        rw [Int.zero_add]
        have hul := hus.len
        obtain ⟨dsx, hs8⟩ := I8.sm.s_
        refine ⟨_, rfl, sa.s, dsx, _, rfl, hs8, st_no _ _ _ _ (by decide +kernel) (by decide +kernel) (by decide +kernel) (by decide +kernel), ?_⟩
        refine ⟨_, rfl, _, rfl, al, us, rfl, .inl (SqL.of hal), a, p, ns, _, rfl, I8.st, by omega, by omega, fun H9 r k9 st9 r0 r1 => ?_⟩
        have I9 := I8.draw k9 st9
        obtain ⟨r', rfl⟩ : ∃ r' : Nat, r = (r' : Int) := ⟨r.toNat, by omega⟩
        intro x dx nx ndx ndxx
        refine ⟨x, dx, _, rfl, upd_same, fun H10 k10 hx => ⟨rfl, ?_⟩⟩
        have s10 := Same.made nx ndx k10
        intro y dy ny ndy ndyy
        refine ⟨y, dy, _, rfl, upd_same, fun H11 m11 k11 hy nm11 hm11 => ⟨rfl, ?_⟩⟩
        have s11 := Same.made ny ndy k11
        have sm0 : Same H10 (upd (upd H10 dy (.own y)) y (.ins A.Instance dy [])) := Same.made ny ndy fun _ _ e _ => e
        have s911 := s10.trans s11
        have I11 := I9.same s911
        have hal11 := s911 _ _ (k9 _ _ hal oal.np)
        obtain ⟨g1, g2, g3⟩ := I9.grow L I11 (s10.free ny) (s10.free (sm0.free nm11))
        refine ⟨sa, S, y, m11, .inst (.obj r') [], rfl, I11.sm, ⟨dy, _, [], hy, ⟨x, dx, rfl, s11 _ _ hx⟩, hm11, trivial⟩, g1, g2, by omega, fun H12 rr k12 sm12 nr12 hr12 => ?_⟩
        have I12 := g3 H12 _ k12 sm12
        have ev : Ev sa { sa with X := sa.X ++ [y], M := sa.M ++ [m11] } H9 H12 := (I9.sm.grow L s911 (s10.free ny) (s10.free (sm0.free nm11))).2.2 H12 k12
        have vk := (Sv.vk (I8.sv k9)).trans (Fr.vk L I9.sm ev.fr)
        exact ⟨_, { sa with X := sa.X ++ [y], M := sa.M ++ [m11] }, _, rfl, I12, g8.snoc (show othT _ (.inst (.obj r') []) from ⟨r', rfl, by omega⟩), by show (S.things ++ [_]).length = _; rw [List.length_append, hsl]; rfl, ev.fr _ _ (k9 _ _ hal oal.np) oal.no, hus.imp vk.v, oal.ev ev (k9 _ _ hal oal.np)⟩
      rintro σ H8 ⟨y4, sa, S, rfl, I8, g8, hsl, hal, hus, oal⟩
      refine ⟨_, rfl, a, p, ns, 3, rfl, I8.st, by decide, by decide, fun H9 r k9 st9 r0 r3 => ?_⟩
      have I9 := I8.draw k9 st9
      obtain ⟨m3, rfl⟩ : ∃ m : Nat, r = (m : Int) := ⟨r.toNat, by omega⟩
      have em3 : (1 : Int) + (m3 : Int) = ((m3 + 1 : Nat) : Int) := by omega
      refine ⟨_, _, rfl, rfl, ?_⟩
      refine ⟨((m3 + 1 : Nat) : Int), by show [V.int (1 + (m3 : Int))] = [V.int ((m3 + 1 : Nat) : Int)]; rw [em3], by omega, by omega, for_range (n := m3 + 1) (fun i σ H' => ∃ (y4 : Option V) (sa' : Sa) (S' : St), σ = [some (.ref p), some (.ref sa'.s), some (.ref kl), some (.ref al), y4, y5, y6, y7, none] ∧ LI P w K A a p ns H H' sa' S' ∧ G18 S' pars ∧ S'.things.length ≤ 20 + i ∧ H' al = some (.lst us) ∧ Hs A H' us pars ∧ OL H p sa' al)
        ⟨y4, sa, S, rfl, I9, g8, by omega, k9 _ _ hal oal.np, hus.imp fun _ _ h => h.sv (I8.sv k9), oal⟩ ?_ ?_⟩
      · rintro i σ H10 hi ⟨y4, sa, S, rfl, I10, g10, hsl, hal, hus, oal⟩
        rw [Int.zero_add]
        refine ⟨_, rfl, _, rfl, by show 4 ≤ sizeLine; decide, fun T nT => ?_⟩
        have sT := same_upd (o := .tup [.int 0, .int 1, .int 4, .int 600]) nT
        have I11 := I10.same sT
        refine ⟨a, p, T, ns, _, rfl, I11.st, .inl (.inl upd_same), by show 0 < 4; decide, by show 4 ≤ 100; decide, fun H12 mv hmv k12 st12 => ?_⟩
        have I12 := I11.draw k12 st12
        obtain ⟨n, rfl, hn⟩ : ∃ n : Nat, mv = .int (n : Nat) ∧ n ≤ 600 := by
          simp only [List.mem_cons, List.not_mem_nil, or_false] at hmv
          rcases hmv with rfl | rfl | rfl | rfl
          · exact ⟨0, rfl, by decide⟩
          · exact ⟨1, rfl, by decide⟩
          · exact ⟨4, rfl, by decide⟩
          · exact ⟨600, rfl, by decide⟩
        have hal12 := k12 _ _ (sT _ _ hal) oal.np
        have hus12 := (hus.imp fun _ _ h => h.sv (Same.sv sT)).imp fun _ _ h => h.sv (I11.sv k12)
        refine ⟨_, rfl, by omega, by omega, fun D nD => ?_⟩
        refine lc_range (lo := 0) (n := n) (fun j H' => Same H12 H' ∧ H' D = some (.lst (intsV j))) ⟨same_upd nD, upd_same⟩ ?_ ?_
        · rintro j H13 hj ⟨s13, hD⟩
          rw [Int.zero_add]
          refine ⟨rfl, _, rfl, _, hD, ?_, fun b u e => ?_, ?_⟩
          · unfold intsV
            rw [List.length_map, List.length_range]
            exact Nat.lt_of_le_of_lt (m := 600) (by omega) (by decide)
          · rw [upd_ne (ne_of_none e nD)]; exact s13 _ _ e
          · rw [upd_same]
            unfold intsV
            rw [List.range_succ, List.map_append]
            rfl
        · rintro H13 ⟨s13, hD⟩
          have I13 := I12.same s13
          refine ⟨sa, S, D, intsV n, intsD n, rfl, I13.sm, SqL.of hD, hs_ints _, by unfold intsD; rw [List.length_map, List.length_range]; omega, by omega, fun H14 rr sa' ev14 sm14 hr14 => ?_⟩
          have I14 := I13.ev ev14 sm14
          have vk := Fr.vk L I13.sm ev14.fr
          exact ⟨_, sa', _, by rw [ev14.s]; rfl, I14, g10.snoc (show othT _ (.parts (intsD n)) from ⟨by unfold intsD; rw [List.length_map, List.length_range]; omega, fun d hd => by
            obtain ⟨k, _, rfl⟩ := List.mem_map.mp hd
            exact ⟨_, rfl⟩⟩), by show (S.things ++ [_]).length ≤ _; rw [List.length_append, List.length_singleton]; omega, ev14.fr _ _ (s13 _ _ hal12) oal.no, (hus12.imp fun _ _ h => h.sv (Same.sv s13)).imp vk.v, oal.ev ev14 (s13 _ _ hal12)⟩
      · rintro σ H10 ⟨y4, sa, S, rfl, I10, g10, hsl, hal, hus, oal⟩
        refine ⟨_, rfl, Nat.zero_le _, fun D nD => ?_⟩
        have sD := same_upd (o := .lst []) nD
        have I11 := I10.same sD
        refine ⟨sa, S, D, [], [], rfl, I11.sm, SqL.of upd_same, trivial, by decide, by omega, fun H12 rr sa2 ev12 sm12 hr12 => ?_⟩
        have I12 := I11.ev ev12 sm12
        have vk12 := Fr.vk L I11.sm ev12.fr
        have g12 : G18 { S with things := S.things ++ [.table (putAll [])] } pars := g10.snoc trivial
        have hal12 := ev12.fr _ _ (sD _ _ hal) oal.no
        have oal12 := oal.ev ev12 (sD _ _ hal)
        have hus12 := (hus.imp fun _ _ h => h.sv (Same.sv sD)).imp vk12.v
        obtain ⟨dsx, hs12⟩ := I12.sm.s_
        refine ⟨_, by rw [← ev12.s]; rfl, sa2.s, dsx, _, rfl, hs12, st_no _ _ _ _ (by decide +kernel) (by decide +kernel) (by decide +kernel) (by decide +kernel), ?_⟩
        refine ⟨Nat.zero_le _, fun T0 nT0 => ?_⟩
        have s13 := same_upd (o := .tup []) nT0
        intro y dy ny ndy ndyy
        refine ⟨y, dy, _, _, _, rfl, upd_same, fun H14 k14 hy => ⟨rfl, ?_⟩⟩
        have hdy := k14 dy (.own y) (by rw [upd_ne ndyy]; exact upd_same) ndyy
        have s14 := s13.trans (Same.made ny ndy k14)
        have I14 := I12.same s14
        obtain ⟨g1, g2, g3⟩ := I12.grow L I14 (s13.free ny) (s13.free ndy)
        refine ⟨sa2, _, y, dy, .clo, rfl, I14.sm, ⟨_, hy, hdy⟩, g1, g2, by show (S.things ++ [_]).length < _; rw [List.length_append, List.length_singleton]; omega, fun H15 rr2 k15 sm15 nr15 hr15 => ?_⟩
        have I15 := g3 H15 _ k15 sm15
        have ev15 : Ev sa2 { sa2 with X := sa2.X ++ [y], M := sa2.M ++ [dy] } H12 H15 := (I12.sm.grow L s14 (s13.free ny) (s13.free ndy)).2.2 H15 k15
        have vk15 := Fr.vk L I12.sm ev15.fr
        have hal15 := ev15.fr _ _ hal12 oal12.no
        have oal15 := oal12.ev ev15 hal12
        have hus15 := hus12.imp vk15.v
        refine ⟨_, rfl, _, rfl, by show 2 ≤ sizeLine; decide, fun E2 nE => ?_⟩
        have s16 := same_upd (o := .lst [.ref sa.s, .ref al]) nE
        have oE := OL.new L I15 nE
        refine q _ E2 al _ _ pars us (I15.same s16) (g12.snoc trivial) (by omega) (by omega) (by show ((S.things ++ [_]) ++ [_]).length ≤ _; rw [List.length_append, List.length_append, List.length_singleton, List.length_singleton]; omega) ?_ oE (s16 _ _ hal15) (hus15.imp fun _ _ h => h.sv (Same.sv s16)) oal15
        show upd H15 E2 (.lst [.ref sa.s, .ref al]) E2 = some (.lst [.ref sa2.s, .ref al])
        rw [upd_same, ev12.s]
end
end My
namespace GN
open PySem PySem.SeqAt
open AutoSeq1 (wpAny_loadPart')
open MeetsSeq MeetsSeq2 MeetsSeq3 SeqRoads2
section
variable {prog : Program} {w : World} {A : Around} {R : Result → Shared → Prop}
theorem tuple_neG (l b : Addr) (items items2 : Array Value) (n n2 : Nat) (dd dd2 : Option Addr) (sl sl2 : Array (Option Value)) (hsz : items.size = items2.size) (I : Nat → Shared → Prop)
    (turn : ∀ i (h1 : i < items.size) (h2 : i < items2.size) s, I i s → wpAny (model prog w) A.in1 (eqBool items[i] items2[i]) (fun r s' => r = true ∧ I (i + 1) s') (fun e s' => R (.error e) s') s)
    (fin : ∀ s, I items.size s → R (.ok (.ret (.bool false))) s) {s : Shared} (hl1 : s.heap.get? l = some { cls := .type "tuple", dict := dd, data := .seq items n, slots := sl }) (hb1 : s.heap.get? b = some { cls := .type "tuple", dict := dd2, data := .seq items2 n2, slots := sl2 }) (h : I 0 s) :
    wpAny (model prog w) A.in1 (Builtin.«tuple.__ne__» ⟨[.ref l, .ref b], []⟩) (GQ.FinOf prog w A R) (fun e s' => R (.error e) s') s := by
  have f2 := AutoSeq1.sub_tuple_tuple
  have hZ : (items.toList.zip items2.toList).length = items.size := by simp [hsz]
  have h0 := h
  obtain ⟨hp, g, d, tk, os⟩ := s
  wp_walk using wpAny_loadPart' hl1, wpAny_loadPart' hb1, wpAny_forIn_list _ (fun rest b s' => b.1 = none ∧ ∃ i, rest = (items.toList.zip items2.toList).drop i ∧ i ≤ items.size ∧ I i s') _
  case turn =>
    rintro ⟨y, x⟩ rest b s' ⟨hb', i, hz, hi, hI⟩
    have hlt : i < (items.toList.zip items2.toList).length := by
      rcases Nat.lt_or_ge i (items.toList.zip items2.toList).length with h' | h'
      · exact h'
      · rw [List.drop_of_length_le h'] at hz; cases hz
    have h1 : i < items.size := hZ ▸ hlt
    have h2 : i < items2.size := hsz ▸ h1
    rw [List.drop_eq_getElem_cons hlt] at hz
    injection hz with hyx hrest
    have hy : y = items[i] := by have := congrArg Prod.fst hyx; simpa using this
    have hx : x = items2[i] := by have := congrArg Prod.snd hyx; simpa using this
    subst hy hx
    refine wpAny_bind (wpAny_mono (turn i h1 h2 s' hI) (fun r s2 q2 => ?_) fun _ _ x => x)
    obtain ⟨hr, q2⟩ := q2
    subst hr
    wp_walk
    exact ⟨rfl, i + 1, hrest, h1, q2⟩
  case fin =>
    rintro ⟨b1, b2⟩ s' ⟨hb', i, hz, hi, hI⟩
    simp only at hb'
    subst hb'
    have hge : items.size ≤ i := by
      rcases Nat.lt_or_ge i (items.toList.zip items2.toList).length with h' | h'
      · rw [List.drop_eq_getElem_cons h'] at hz; cases hz
      · exact hZ ▸ h'
    have hi' : i = items.size := by omega
    have hR : R (.ok (.ret (.bool false))) s' := fin s' (hi' ▸ hI)
    wp_walk
    simpa [Builtin.Tuple.tupleCompareSizes, hsz] using hR
  case h =>
    exact ⟨rfl, 0, rfl, Nat.zero_le _, h0⟩
end
section
variable {prog : Program} {w : World} {A : Around} {E : Value → Shared → Prop} {s : Shared}
theorem rn_tupG {l b : Addr} {items items2 : Array Value} {Q : Value → Shared → Prop} (hsz : items.size = items2.size) (hu : A.units < cLine) (I : Nat → Shared → Prop)
    (hl : s.heap.IsTuple l items) (hb : s.heap.IsTuple b items2)
    (turn : ∀ i (h1 : i < items.size) (h2 : i < items2.size) s, I i s → wpAny (model prog w) A.in1 (eqBool items[i] items2[i]) (fun r s' => r = true ∧ I (i + 1) s') E s)
    (fin : ∀ s, I items.size s → Q (.bool false) s) (h : I 0 s) : wpAny (model prog w) A (richCompare .NotEq (.ref l) (.ref b)) Q E s := by
  obtain ⟨⟨cls, dd, data, sl⟩, ho, hc, n, hd⟩ := id hl
  obtain ⟨⟨cls2, dd2, data2, sl2⟩, ho2, hc2, n2, hd2⟩ := id hb
  simp only at hc hd hc2 hd2
  subst hc hd hc2 hd2
  refine wpAny_richCompare_same_room (op := .NotEq) ⟨_, ho, rfl⟩ ⟨_, ho2, rfl⟩ F.slot_tuple_ne (GQ.call_here F.slot_tuple_ne ⟨_, ho, rfl⟩ F.entry_tuple_ne (F.args_tuple_ne_2 _ _) ?_) hu
  exact tuple_neG (R := wants (fun v s' => v ≠ .notImplemented ∧ Q v s') E) l b items items2 n n2 dd dd2 sl sl2 hsz I turn (fun s' q => ⟨(fun x => nomatch x), fin s' q⟩) ho ho2 h
end
end GN
namespace L2
open PySem PySem.Spec PyProof.Rows
section
variable {X : Cx} {n : Nat} {D : Eqv}
/-- x != y of two tuples that are equal item by item -/
theorem op_neTG (hD : Mon D) (h : EqG X n D) (hr : Room (n + 1) X.A) : OpR X (compareOp .NotEq) (fun x y H Q => DTup X.K D x y H ∧ ∀ H', Ext H H' → Q (.bl false) H') := by
  intro pins s σ H x y v u Q I rx ry hq
  obtain ⟨⟨a, b, xs, ys, rfl, rfl, ha, hb, p⟩, q⟩ := hq
  cases rx
  cases ry
  obtain ⟨its, r, e, z⟩ := I.tuple ha
  obtain ⟨its2, r2, e2, z2⟩ := I.tuple hb
  have hsz : its.toArray.size = its2.toArray.size := by rw [List.size_toArray, List.size_toArray, ← r.length, ← r2.length]; exact p.1
  have sb : Sub X (n + 1) X.A := ⟨hr, rfl⟩
  show wpAny (model X.prog X.w) X.A (richCompare .NotEq (.ref a) (.ref b)) (EP X pins σ Q) X.xe s
  exact GN.rn_tupG hsz hr.units0 (fun _ s' => LoopI X pins σ H s') e e2 (fun i h1 h2 s' q => turnG hD h sb p r r2 i h1 h2 s' q) (fun s' z => by
    obtain ⟨H', I', e'⟩ := z
    exact ⟨.bl false, H', I', rfl, q H' e'⟩) ⟨H, I, Ext.rfl'⟩
end
end L2
namespace My
open PySem L2 SX XT XS XE XD XL
open C8 (pss_cut tCut cutS_slice pe_gc)
section
variable {P : Program} {w : World} {K : PySem.W.Frag} {mg : Str → Option Value} {base : Heap} {A : Ads}
def refR (A : Ads) (a b : Addr) (H : Hp) : Prop := ∃ n da db, H a = some (.ins A.Ref da (refF n)) ∧ H b = some (.ins A.Ref db (refF n))
theorem ok_Ref_eqG (L : Lib P K mg A) : FnOk P w K mg base CX0 1 L.Ref_eq.f L.Ref_eq.fd ["self", "other"] (L2.spEq (refR A)) := by
  refine L.Ref_eq.F.ok sc_Ref_eq (fun vs H Q E h => ?_) (fun cdv A' outer s H vs Q E hr h => ?_)
  · obtain ⟨a, b, rfl, _⟩ := h
    rfl
  · obtain ⟨a, b, rfl, ⟨n, da, db, ha, hb⟩, q⟩ := h
    refine ⟨_, (pss_one (ps_ret (pe_and (pe_callB call_isi (by rfl) L.z_isinstance (by decide +kernel) (pa_cons (pv 1) (pa_cons (pe_gc (v := .ref A.Ref) (by rfl) ⟨_, L.c_Ref.g, rfl⟩) pa_nil))) (pe_one (pe_cmpR op_eq (pe_fld (pv 0) rfl) (pe_fld (pv 1) rfl) (nomark _)))))), ?_⟩
    refine ⟨_, rfl, _, .ref A.Ref, .ref A.Ref, .ref A.Ref, true, rfl, .own _, L.c_Ref.ty hb, kit_self _, true, rfl, ?_⟩
    refine iteT ⟨_, rfl, a, A.Ref, da, _, _, rfl, ha, L.c_Ref.cl, L.n_Ref_number, lk_hit, _, rfl, b, A.Ref, db, _, _, rfl, hb, L.c_Ref.cl, L.n_Ref_number, lk_hit, rfl, ?_⟩
    rw [decide_eq_true rfl]
    exact q H fun _ _ e => e
def eqTG (A : Ads) : Eqv := fun x y H => DFlat x y H ∨ DIns A.Ref (refR A) x y H
theorem mon_eqTG : Mon (eqTG A) := Mon.or mon_flat (mon_ins fun a b H H' e r => by
  obtain ⟨n, da, db, h1, h2⟩ := r
  exact ⟨n, da, db, e _ _ h1, e _ _ h2⟩)
theorem eqG_TG {X : Cx} (L : Lib X.prog X.K X.mg A) : EqG X 1 (eqTG A) :=
  EqG.or (eqG_flat.mono (Nat.zero_le _)) (eqG_ins (E := E0) (CX := CX0) (ok_Ref_eqG L) L.Ref_eq.m.at_ L.Ref_eq.m.fn L.Ref_eq.b pass0)
/-- ("told", a Ref) != ("told", an equal Ref): False -/
def rNeTold (K : PySem.W.Frag) (A : Ads) : R2 := fun x y H Q => ∃ t u r1 r2 n d1 d2 z, x = .ref t ∧ y = .ref u ∧ SqT K H t [.str z, .ref r1] ∧ SqT K H u [.str z, .ref r2] ∧ H r1 = some (.ins A.Ref d1 (refF n)) ∧ H r2 = some (.ins A.Ref d2 (refF n)) ∧ ∀ H', Same H H' → Q (.bl false) H'
theorem op_neTold {X : Cx} (L : Lib X.prog X.K X.mg A) (hr : Room 2 X.A) : OpR X (compareOp .NotEq) (rNeTold X.K A) := by
  intro pins s σ H x y v u Q I rx ry h
  obtain ⟨t, t2, r1, r2, n, d1, d2, z, rfl, rfl, h1, h2, h3, h4, q⟩ := h
  refine op_neTG mon_eqTG (eqG_TG L) hr pins s σ H _ _ v u Q I rx ry ⟨⟨t, t2, _, _, rfl, rfl, h1, h2, Prs.cons (.inl ⟨rfl, rfl, ?_⟩) (Prs.cons (.inr ⟨r1, r2, d1, d2, _, _, rfl, rfl, h3, h4, n, d1, d2, h3, h4⟩) Prs.nil)⟩, q⟩
  show (z == z) = true
  exact beq_self_eq_true _
end
end My
namespace My
open PySem L2 SX XT XS XE
open C8 (pss_cut tCut cutS_slice pe_gc)
section
variable {P : Program} {w : World} {K : PySem.W.Frag} {mg : Str → Option Value} {base : Heap} {A : Ads}
theorem okH_Store_at (L : Lib P K mg A) : L2H.FnH P w K mg base CX0 1 L.Store_at.f L.Store_at.fd ["self", "ref"] (spAt P w A) := by
  refine XN.okH L.Store_at.F sc_Store_at (fun vs H Q E h => ?_) (fun cdv A' outer s H vs Q E pz hz hr h => ?_)
  · obtain ⟨a, S, r, x, i, rfl, _⟩ := h
    rfl
  · obtain ⟨a, S, r, x, i, rfl, hS, ⟨b, dr, e, hR⟩, hi, q⟩ := h
    cases e
    refine ⟨_, (pss_one (ps_ret (pe_ix ix_list (pe_fld (pv 0) rfl) (pe_fld (pv 1) rfl) (fun _ _ => rfl)))), ?_⟩
    obtain ⟨dx, h1⟩ := hS.s_
    exact ⟨_, rfl, a.s, A.Store, dx, _, _, rfl, h1, L.c_Store.cl, L.n_Store_things, st_things _ _ _ _, _, rfl, r, A.Ref, dr, _, _, rfl, hR, L.c_Ref.cl, L.n_Ref_number, lk_hit, a.t, _, _, .ref x, rfl, rfl, SqL.of hS.t_, atI_nat (by rw [List.getElem?_map, hi]; rfl), q⟩
theorem okH_kind_of_thing (L : Lib P K mg A) : L2H.FnH P w K mg base CX0 1 L.kind_of_thing.f L.kind_of_thing.fd ["thing"] (spKT P w A) := by
  refine XN.okH L.kind_of_thing.F sc_kind_of_thing (fun vs H Q E h => ?_) (fun cdv A' outer s H vs Q E pz hz hr h => ?_)
  · obtain ⟨x, m, d, rfl, _⟩ := h
    rfl
  · obtain ⟨x, m, d, rfl, hd, q⟩ := h
    refine ⟨_, (pss_cons (ps_if (pt_val (pe_callB call_isi (by rfl) L.z_isinstance (by decide +kernel) (pa_cons (pv 0) (pa_cons (pe_gc (v := .ref A.Parts) (by rfl) ⟨_, L.c_Parts.g, rfl⟩) pa_nil))))
        (pss_one (ps_ret pe_str))
        pss_nil)
      (pss_cons (ps_if (pt_val (pe_callB call_isi (by rfl) L.z_isinstance (by decide +kernel) (pa_cons (pv 0) (pa_cons (pe_gc (v := .ref A.Table) (by rfl) ⟨_, L.c_Table.g, rfl⟩) pa_nil))))
        (pss_one (ps_ret pe_str))
        pss_nil)
      (pss_cons (ps_if (pt_val (pe_callB call_isi (by rfl) L.z_isinstance (by decide +kernel) (pa_cons (pv 0) (pa_cons (pe_gc (v := .ref A.Instance) (by rfl) ⟨_, L.c_Instance.g, rfl⟩) pa_nil))))
        (pss_one (ps_ret pe_str))
        pss_nil)
      (pss_cons (ps_if (pt_val (pe_callB call_isi (by rfl) L.z_isinstance (by decide +kernel) (pa_cons (pv 0) (pa_cons (pe_gc (v := .ref A.Kin) (by rfl) ⟨_, L.c_Kin.g, rfl⟩) pa_nil))))
        (pss_one (ps_ret pe_str))
        pss_nil)
      (pss_one (ps_ret pe_str)))))), ?_⟩
    have ty := th_ty L hd
    refine ⟨_, rfl, _, .ref A.Parts, _, .ref A.Parts, _, rfl, .own _, ty, kit_P L d, _, rfl, ite_or (fun e => ?_) fun e1 => ?_⟩
    · cases d <;> first | exact q | (cases e; done)
    refine ⟨_, rfl, _, .ref A.Table, _, .ref A.Table, _, rfl, .own _, ty, kit_T L d, _, rfl, ite_or (fun e => ?_) fun e2 => ?_⟩
    · cases d <;> first | exact q | (cases e; done)
    refine ⟨_, rfl, _, .ref A.Instance, _, .ref A.Instance, _, rfl, .own _, ty, kit_I L d, _, rfl, ite_or (fun e => ?_) fun e3 => ?_⟩
    · cases d <;> first | exact q | (cases e; done)
    refine ⟨_, rfl, _, .ref A.Kin, _, .ref A.Kin, _, rfl, .own _, ty, kit_K L d, _, rfl, ite_or (fun e => ?_) fun e4 => ?_⟩
    · cases d <;> first | exact q | (cases e; done)
    cases d <;> first | exact q | (cases e1; done) | (cases e2; done) | (cases e3; done) | (cases e4; done)
theorem okH_kind_of (L : Lib P K mg A) : L2H.FnH P w K mg base CX0 2 L.kind_of.f L.kind_of.fd ["store", "value"] (spKO P w A) := by
  have H_kind_of_thing : L2H.FnH P w K mg base CX0 1 L.kind_of_thing.f L.kind_of_thing.fd ["thing"] (spKT P w A) := okH_kind_of_thing L
  have H_Store_at : L2H.FnH P w K mg base CX0 1 L.Store_at.f L.Store_at.fd ["self", "ref"] (spAt P w A) := okH_Store_at L
  refine XN.okH L.kind_of.F sc_kind_of (fun vs H Q E h => ?_) (fun cdv A' outer s H vs Q E pz hz hr h => ?_)
  · obtain ⟨a, S, v, d, rfl, _⟩ := h
    rfl
  · obtain ⟨a, S, v, d, rfl, hS, hv, ho, q⟩ := h
    refine ⟨_, (pss_cons (ps_if (pt_cmpR op_isN (pv 1) pe_non (nomark _))
        (pss_one (ps_ret pe_str))
        pss_nil)
      (pss_cons (ps_if (pt_val (pe_callB call_isi (by rfl) L.z_isinstance (by decide +kernel) (pa_cons (pv 1) (pa_cons (pe_bltn (v := .ty "bool") (by rfl) L.z_bool (by decide +kernel) rfl) pa_nil))))
        (pss_one (ps_ret pe_str))
        pss_nil)
      (pss_cons (ps_if (pt_val (pe_callB call_isi (by rfl) L.z_isinstance (by decide +kernel) (pa_cons (pv 1) (pa_cons (pe_bltn (v := .ty "int") (by rfl) L.z_int (by decide +kernel) rfl) pa_nil))))
        (pss_one (ps_ret pe_str))
        pss_nil)
      (pss_cons (ps_if (pt_val (pe_callB call_isi (by rfl) L.z_isinstance (by decide +kernel) (pa_cons (pv 1) (pa_cons (pe_bltn (v := .ty "str") (by rfl) L.z_str (by decide +kernel) rfl) pa_nil))))
        (pss_one (ps_ret pe_str))
        pss_nil)
      (pss_cons (ps_if (pt_val (pe_callB call_isi (by rfl) L.z_isinstance (by decide +kernel) (pa_cons (pv 1) (pa_cons (pe_gc (v := .ref A.Ref) (by rfl) ⟨_, L.c_Ref.g, rfl⟩) pa_nil))))
        (pss_one (ps_ret (L2H.pe_callH (E := fun _ => E0) H_kind_of_thing (hr.mono (by omega)) (XN.hot_in hz) (by rfl) L.kind_of_thing.g L.kind_of_thing.F.kp L.kind_of_thing.b XN.pass0H (pa_cons (L2H.pe_methH (E := fun _ => E0) (pv 0) L.c_Store.cl L.Store_at.m H_Store_at (hr.mono (by omega)) (XN.hot_in hz) L.Store_at.b XN.pass0H (pa_cons (pv 1) pa_nil)) pa_nil))))
        pss_nil)
      (pss_one (ps_ret pe_str))))))), ?_⟩
    have ty := has_ty L hv
    have isn : decide (v = V.non) = decide (d = .non) := by
      cases d with
      | non => cases hv; rfl
      | obj n => obtain ⟨b, dx, rfl, _⟩ := hv; rfl
      | bi n => obtain ⟨b, dx, rfl, _⟩ := hv; rfl
      | _ => cases hv; rfl
    refine ⟨_, rfl, rfl, _, rfl, ite_or (fun e => ?_) fun e0 => ?_⟩
    · rw [isn] at e
      have : d = .non := of_decide_eq_true e
      subst this
      exact q
    rw [isn] at e0
    refine ⟨_, rfl, v, .ty "bool", _, _, _, rfl, .ty _, ty, kit_bool L d, _, rfl, ite_or (fun e => ?_) fun e1 => ?_⟩
    · cases d <;> first | exact q | (cases e; done)
    refine ⟨_, rfl, v, .ty "int", _, _, _, rfl, .ty _, ty, kit_int L d, _, rfl, ite_or (fun e => ?_) fun e2 => ?_⟩
    · cases d <;> first | exact q | (cases e; done) | (cases e1; done)
    refine ⟨_, rfl, v, .ty "str", _, _, _, rfl, .ty _, ty, kit_str L d, _, rfl, ite_or (fun e => ?_) fun e3 => ?_⟩
    · cases d <;> first | exact q | (cases e; done)
    refine ⟨_, rfl, v, .ref A.Ref, _, .ref A.Ref, _, rfl, .own _, ty, kit_R L d, _, rfl, ite_or (fun e => ?_) fun e4 => ?_⟩
    · cases d with
      | obj n =>
        obtain ⟨th, hth⟩ : ∃ th, S.things[n]? = some th := ⟨_, List.getElem?_eq_getElem ho⟩
        obtain ⟨x, m, hx, hm, ht⟩ := hS.get hth
        obtain ⟨dx, h1⟩ := hS.s_
        have q' : Q (.str (kindT th)) H := by
          have : kindD S (.obj n) = kindT th := by
            show (match S.things[n]? with
              | some d => kindT d
              | none => "function") = kindT th
            rw [hth]
          rw [← this]
          exact q
        obtain ⟨b, db, rfl, hb⟩ := hv
        exact ⟨_, rfl, a.s, dx, _, rfl, h1, st_no _ _ _ _ (by decide +kernel) (by decide +kernel) (by decide +kernel) (by decide +kernel), _, rfl, a, S, b, x, n, rfl, hS, ⟨b, db, rfl, hb⟩, hx, x, m, th, rfl, ht, q'⟩
      | _ => cases e
    cases d <;> first | exact q | (cases e0; done) | (cases e1; done) | (cases e2; done) | (cases e3; done) | (cases e4; done)
theorem okH_law_kind (L : Lib P K mg A) : L2H.FnH P w K mg base CX0 3 L.law_kind.f L.law_kind.fd ["store", "value"] (spLK P w A) := by
  have H_kind_of : L2H.FnH P w K mg base CX0 2 L.kind_of.f L.kind_of.fd ["store", "value"] (spKO P w A) := okH_kind_of L
  refine XN.okH L.law_kind.F sc_law_kind (fun vs H Q E h => ?_) (fun cdv A' outer s H vs Q E pz hz hr h => ?_)
  · obtain ⟨a, S, v, d, rfl, _⟩ := h
    rfl
  · obtain ⟨a, S, v, d, rfl, hS, hv, ho, q⟩ := h
    refine ⟨_, (pss_cons (ps_if (pt_cmpR op_isN (pv 1) pe_non (nomark _))
        (pss_one (ps_ret pe_str))
        pss_nil)
      (pss_cons (ps_if (pt_val (pe_callB call_isi (by rfl) L.z_isinstance (by decide +kernel) (pa_cons (pv 1) (pa_cons (pe_bltn (v := .ty "bool") (by rfl) L.z_bool (by decide +kernel) rfl) pa_nil))))
        (pss_one (ps_ret pe_str))
        pss_nil)
      (pss_cons (ps_if (pt_val (pe_callB call_isi (by rfl) L.z_isinstance (by decide +kernel) (pa_cons (pv 1) (pa_cons (pe_bltn (v := .ty "int") (by rfl) L.z_int (by decide +kernel) rfl) pa_nil))))
        (pss_one (ps_ret pe_str))
        pss_nil)
      (pss_cons (ps_if (pt_val (pe_callB call_isi (by rfl) L.z_isinstance (by decide +kernel) (pa_cons (pv 1) (pa_cons (pe_bltn (v := .ty "str") (by rfl) L.z_str (by decide +kernel) rfl) pa_nil))))
        (pss_one (ps_ret pe_str))
        pss_nil)
      (pss_one (ps_ret (L2H.pe_callH (E := fun _ => E0) H_kind_of (hr.mono (by omega)) (XN.hot_in hz) (by rfl) L.kind_of.g L.kind_of.F.kp L.kind_of.b XN.pass0H (pa_cons (pv 0) (pa_cons (pv 1) pa_nil))))))))), ?_⟩
    have ty := has_ty L hv
    have isn : decide (v = V.non) = decide (d = .non) := by
      cases d with
      | non => cases hv; rfl
      | obj n => obtain ⟨b, dx, rfl, _⟩ := hv; rfl
      | bi n => obtain ⟨b, dx, rfl, _⟩ := hv; rfl
      | _ => cases hv; rfl
    refine ⟨_, rfl, rfl, _, rfl, ite_or (fun e => ?_) fun e0 => ?_⟩
    · rw [isn] at e
      have : d = .non := of_decide_eq_true e
      subst this
      exact q
    refine ⟨_, rfl, v, .ty "bool", _, _, _, rfl, .ty _, ty, kit_bool L d, _, rfl, ite_or (fun e => ?_) fun e1 => ?_⟩
    · cases d <;> first | exact q | (cases e; done)
    refine ⟨_, rfl, v, .ty "int", _, _, _, rfl, .ty _, ty, kit_int L d, _, rfl, ite_or (fun e => ?_) fun e2 => ?_⟩
    · cases d <;> first | exact q | (cases e; done) | (cases e1; done)
    refine ⟨_, rfl, v, .ty "str", _, _, _, rfl, .ty _, ty, kit_str L d, _, rfl, ite_or (fun e => ?_) fun e3 => ?_⟩
    · cases d <;> first | exact q | (cases e; done)
    exact ⟨_, rfl, _, rfl, a, S, v, d, rfl, hS, hv, ho, q⟩
end
end My
namespace My
open PySem L2 SX XT XS XE XD XL
open C8 (pss_cut tCut cutS_slice pe_gc)
section
variable {P : Program} {w : World} {K : PySem.W.Frag} {mg : Str → Option Value} {base : Heap} {A : Ads}
theorem ss_shape {x y : Str} (hx : PyData.strOk x = true) (hy : PyData.strOk y = true) : SeqAt.shaped (.tuple [.str x, .str y]) = true := by
  simp [SeqAt.shaped, PyData.canLay0, PyData.canLayAll0, PyData.depth, PyData.depthAll, hx, hy]
theorem sss_shape {x y z : Str} (hx : PyData.strOk x = true) (hy : PyData.strOk y = true) (hz : PyData.strOk z = true) : SeqAt.shaped (.tuple [.str x, .str y, .str z]) = true := by
  simp [SeqAt.shaped, PyData.canLay0, PyData.canLayAll0, PyData.depth, PyData.depthAll, hx, hy, hz]
theorem kn_ok : ∀ n, n < 9 → PyData.strOk (kn n) = true := by decide +kernel
theorem eqv_str (a b : Str) : PyData.eqv (.str a) (.str b) = decide (a = b) := by
  unfold PyData.eqv
  by_cases h : a = b
  · subst h; simp
  · simp [h]
theorem eqv_ss (a b c d : Str) : PyData.eqv (.tuple [.str a, .str b]) (.tuple [.str c, .str d]) = (decide (a = c) && decide (b = d)) := by
  rw [show PyData.eqv (.tuple [.str a, .str b]) (.tuple [.str c, .str d]) = PyData.eqvAll [.str a, .str b] [.str c, .str d] by unfold PyData.eqv; rfl]
  simp only [PyData.eqvAll, eqv_str, Bool.and_true]
theorem eqv_sss (a b c d e f : Str) : PyData.eqv (.tuple [.str a, .str b, .str c]) (.tuple [.str d, .str e, .str f]) = (decide (a = d) && (decide (b = e) && decide (c = f))) := by
  rw [show PyData.eqv (.tuple [.str a, .str b, .str c]) (.tuple [.str d, .str e, .str f]) = PyData.eqvAll [.str a, .str b, .str c] [.str d, .str e, .str f] by unfold PyData.eqv; rfl]
  simp only [PyData.eqvAll, eqv_str, Bool.and_true]
/-- what the law is told: a value, or an error -/
def tQ (Q : VK) : VK := fun v H' => ∀ t, H' t = none → Q (.ref t) (upd H' t (.tup [.str "told", v]))
def tE (A : Ads) (Q : VK) : XK := fun c dd H' => ∃ (d : Addr) (k m : Str) (H0 : Hp), c = .ref A.ScriptError ∧ dd = some d ∧ H0 d = none ∧ H' = upd H0 d (.xd [("message", .str m), ("kind", .str k)]) ∧ ∀ t H2, Same H0 H2 → H2 t = none → Q (.ref t) (upd H2 t (.tup [.str "raised", .str k, .str m]))
theorem tE_err {Q : VK} {H : Hp} {k m : Str} (h : ∀ t H2, Same H H2 → H2 t = none → Q (.ref t) (upd H2 t (.tup [.str "raised", .str k, .str m]))) : Err (tE A Q) A.ScriptError H k m := fun d hd => ⟨d, k, m, H, rfl, rfl, hd, rfl, h⟩
def spTold (P : Program) (w : World) (A : Ads) : Sp := fun vs H Q _ => ∃ (a : Sa) (S : St) (m : Nat) (o : Str) (v1 v2 : V) (d1 d2 : Dv), vs = [.ref a.s, .str o, v1, v2] ∧ Two_ P w A H a S v1 v2 d1 d2 ∧ ¬ (kc S d1 = 2 ∧ kc S d2 = 2) ∧ binQ P w A a S m H o d1 d2 (tQ Q) (tE A Q)
theorem binQ_mono {a : Sa} {S : St} {m : Nat} {H : Hp} {o : Str} {d1 d2 : Dv} {Q Q' : VK} {E E' : XK} (hq : ∀ v H', Q v H' → Q' v H') (he : ∀ c d H', E c d H' → E' c d H') (h : binQ P w A a S m H o d1 d2 Q E) : binQ P w A a S m H o d1 d2 Q' E' := by
  have er : ∀ {H' : Hp} {k m : Str}, Err E A.ScriptError H' k m → Err E' A.ScriptError H' k m := fun h d hd => he _ _ _ (h d hd)
  rcases h with ⟨v, hv, h⟩ | ⟨ho, h1, h2⟩ | ⟨ho, hK, hO, h1, h2⟩ | ⟨ho, hb, h1, h2, h3⟩
  · exact .inl ⟨v, hv, fun H' s => er (h H' s)⟩
  · exact .inr (.inl ⟨ho, fun x y e1 e2 H' s => hq _ _ (h1 x y e1 e2 H' s), fun n H' s => er (h2 n H' s)⟩)
  · exact .inr (.inr (.inl ⟨ho, hK, hO, fun n e1 e2 H' s => hq _ _ (h1 n e1 e2 H' s), fun n H' s => er (h2 n H' s)⟩))
  · refine .inr (.inr (.inr ⟨ho, hb, fun x y e1 e2 => ?_, fun n1 n2 es fs e1 e2 e3 e4 => ?_, fun n1 n2 H' s => er (h3 n1 n2 H' s)⟩))
    · obtain ⟨g1, g2, g3, g4⟩ := h1 x y e1 e2
      exact ⟨g1, g2, fun l H' s => hq _ _ (g3 l H' s), fun l H' s => er (g4 l H' s)⟩
    · obtain ⟨g1, g2, g3, g4⟩ := h2 n1 n2 es fs e1 e2 e3 e4
      exact ⟨g1, g2, fun l H' r a' ev sm hr => hq _ _ (g3 l H' r a' ev sm hr), fun l H' s => er (g4 l H' s)⟩
theorem ok_law_told (L : Lib P K mg A) (D : Dx K w mg "VERBS" verbS) : FnOk P w K mg base CX0 9 L.law_told.f L.law_told.fd ["store", "operator", "x", "y"] (spTold P w A) := by
  have G_binary : FnOk P w K mg base (L2.CX P w) 7 L.binary.f L.binary.fd ["store", "operator", "x", "y"] (spBin P w A) := ok_binary L D
  refine L.law_told.F.ok sc_law_told (fun vs H Q E h => ?_) (fun cdv A' outer s H vs Q E hr h => ?_)
  · obtain ⟨a, S, m, o, v1, v2, d1, d2, rfl, _⟩ := h
    rfl
  · obtain ⟨a, S, m, o, v1, v2, d1, d2, rfl, T, hii, q⟩ := h
    refine ⟨_, (pss_one (ps_try_as (i := 4) (Wout := fun _ _ _ _ => False) rfl rfl sc_law_told.nd rfl rfl ⟨rfl, by decide, .inl L.x_ScriptError.g⟩ takes0 (fun W pn xe tk _ => pss_one (ps_ret (by exact (pe_tup (pa_cons pe_str (pa_cons (by exact (pe_callS G_binary (hr.mono (by omega)) (by rfl) L.binary.g L.binary.F.kp L.binary.b (fun σ => passAt tk σ) (by exact (pa_cons (pv 0) (pa_cons (pv 1) (pa_cons (pv 2) (pa_cons (pv 3) pa_nil))))))) pa_nil)))))) (fun a oe cls d pn hz hf => pss_one (ps_ret (pe_tup (pa_cons pe_str (pa_cons (pe_xf L.x_ScriptError.T.xf L.x_ScriptError.T.n1 hz hf (pv 4)) (pa_cons (pe_xf L.x_ScriptError.T.xf L.x_ScriptError.T.n2 hz hf (pv 4)) pa_nil)))))))), ?_⟩
    refine ⟨_, rfl, _, rfl, _, rfl, _, rfl, a, S, m, o, v1, v2, d1, d2, rfl, T, hii, ?_⟩
    refine binQ_mono (fun v H' h => ⟨by show 2 ≤ sizeLine; decide, fun t ht => h t ht⟩) (fun c dd H' h => ?_) q
    obtain ⟨d, k, mm, H0, rfl, rfl, hd, rfl, h⟩ := h
    have xd : upd H0 d (.xd [("message", .str mm), ("kind", .str k)]) d = some (.xd [("message", .str mm), ("kind", .str k)]) := upd_same
    refine ⟨true, L.x_ScriptError.T.te, fun _ a0 _ => ?_, fun q => Bool.noConfusion q⟩
    exact ⟨_, rfl, rfl, rfl, d, _, _, rfl, xd, (by rw [lk_skip (by decide +kernel)]; exact lk_hit), _, rfl, rfl, rfl, d, _, _, rfl, xd, lk_hit, (by show 3 ≤ sizeLine; decide), fun t ht => h t _ (same_upd hd) ht⟩
theorem ok_unaryN (L : Lib P K mg A) : FnOk P w K mg base (L2N.CX P w) 4 L.unary.f L.unary.fd ["store", "operator", "x"] (spUn P w A) := by
  have G_kind_of : FnOk P w K mg base CX0 2 L.kind_of.f L.kind_of.fd ["store", "value"] (spKO P w A) := ok_kind_of L
  refine XN.okXN L.unary.F sc_unary (fun vs H Q E h => ?_) (fun cdv A' outer s H vs Q E hr h => ?_)
  · obtain ⟨a, S, v, d, rfl, _⟩ := h
    rfl
  · obtain ⟨a, S, v, d, rfl, hS, hv, ho, q1, q2⟩ := h
    refine ⟨_, (pss_cons (ps_if (pt_cmpR op_eq (pv 1) pe_str (nomark _))
        (pss_one ps_never)
        pss_nil)
      (pss_cons (ps_set (i := 3) sc_unary.nd rfl (.inl rfl) (pe_call G_kind_of (hr.mono (by omega)) (by rfl) L.kind_of.g L.kind_of.F.kp L.kind_of.b .nil pass0 (pa_cons (pv 0) (pa_cons (pv 2) pa_nil))))
      (pss_cons (ps_if (pt_cmpR op_ne (pv 3) pe_str (nomark _))
        (pss_one (XN.ps_raise2N rfl L.x_ScriptError.T (L.x_ScriptError.F _ _) (hr.mono (by omega)) (L2N.takes_of rfl rfl rfl rfl) L.x_ScriptError.b (by rfl) L.x_ScriptError.g (pa_cons pe_str (pa_cons (pe_joined (.cons pe_str (.cons (pe_fmt (pv 3)) .nil))) pa_nil))))
        pss_nil)
      (pss_one (ps_ret (pe_un un_neg (pv 2))))))), ?_⟩
    obtain ⟨k1, l1⟩ := kind_kn S d
    refine ⟨_, rfl, rfl, _, rfl, ifF (by decide +kernel) ?_⟩
    refine ⟨_, rfl, _, rfl, a, S, v, d, rfl, hS, hv, ho, _, rfl, rfl, _, rfl, ?_⟩
    rw [k1, kn_integer _ l1]
    by_cases h2 : kc S d = 2
    · rw [decide_eq_true h2]
      obtain ⟨i, rfl⟩ := kc2 h2
      cases hv
      exact iteF ⟨_, rfl, _, rfl, q1 i rfl H fun _ _ e => e⟩
    · rw [decide_eq_false h2]
      refine iteT ?_
      have lk := kn_short _ l1
      have l14 : (("cannot negate " : Str)).length = 14 := by decide +kernel
      have q3 := q2 h2 H fun _ _ e => e
      rw [k1] at q3
      refine ⟨_, rfl, lt5 (by decide +kernel), _, rfl, .inl ⟨_, rfl, lt5 (by omega), _, rfl, ?_, ?_⟩⟩
      · rw [emp_app, Str.length_append, l14]
        exact Nat.le_trans (m := 100000) (by omega) (by decide)
      · rw [emp_app]
        exact made2 (by decide +kernel) (by rw [Str.length_append, l14]; omega) q3
def negS (S : St) (d : Dv) : Str := ("cannot negate " : Str) ++ kindD S d
def spNeg (P : Program) (w : World) (A : Ads) : Sp := fun vs H Q _ => ∃ (a : Sa) (S : St) (v : V) (d : Dv), vs = [.ref a.s, v] ∧ SM P w A H a S ∧ Has A H v d ∧ okV S d ∧ ∀ H', Same H H' → Q (.bl true) H'
theorem ok_law_negated (L : Lib P K mg A) : FnOk P w K mg base CX0 5 L.law_negated.f L.law_negated.fd ["store", "x"] (spNeg P w A) := by
  have G_unaryN : FnOk P w K mg base (L2N.CX P w) 4 L.unary.f L.unary.fd ["store", "operator", "x"] (spUn P w A) := ok_unaryN L
  have H_law_kind : L2H.FnH P w K mg base CX0 3 L.law_kind.f L.law_kind.fd ["store", "value"] (spLK P w A) := okH_law_kind L
  have G_law_is_integer : FnOk P w K mg base CX0 1 L.law_is_integer.f L.law_is_integer.fd ["told"] (spIsInt A) := ok_law_is_integer L
  refine L.law_negated.F.ok sc_law_negated (fun vs H Q E h => ?_) (fun cdv A' outer s H vs Q E hr h => ?_)
  · obtain ⟨a, S, v, d, rfl, _⟩ := h
    rfl
  · obtain ⟨a, S, v, d, rfl, hS, hv, ho, q⟩ := h
    refine ⟨_, (pss_cons (L2N.ps_try_as (i := 2) (Wout := fun _ _ _ _ => False) rfl rfl sc_law_negated.nd rfl rfl ⟨rfl, by decide, .inl L.x_ScriptError.g⟩ XN.takes0N (fun W pn xe tk _ => pss_one (ps_expr (by exact (pe_callS G_unaryN (hr.mono (by omega)) (by rfl) L.unary.g L.unary.F.kp L.unary.b (fun σ => L2N.passAt tk σ) (by exact (pa_cons (pv 0) (pa_cons pe_str (pa_cons (pv 1) pa_nil)))))))) (fun a oe cls d pn hz hf => pss_one (ps_ret (pe_cmpR (show OpR _ (compareOp .Eq) (rEqD K) from op_eqD (XN.units_mark hr _)) (pe_tup (pa_cons (pe_xf L.x_ScriptError.T.xf L.x_ScriptError.T.n1 hz.zc hf (pv 2)) (pa_cons (pe_xf L.x_ScriptError.T.xf L.x_ScriptError.T.n2 hz.zc hf (pv 2)) pa_nil))) (pe_tup (pa_cons pe_str (pa_cons (pe_op op_add_str pe_str (L2H.pe_callH (E := fun _ => E0) H_law_kind (XN.roomH_mark (hr.mono (show 3 ≤ 4 by decide)) _) (XN.hot_suite hz hf) (by rfl) L.law_kind.g L.law_kind.F.kp L.law_kind.b XN.pass0H (pa_cons (pv 0) (pa_cons (pv 1) pa_nil)))) pa_nil))) (nomark _)))))
      (pss_one (ps_ret (pe_call G_law_is_integer (hr.mono (by omega)) (by rfl) L.law_is_integer.g L.law_is_integer.F.kp L.law_is_integer.b .nil pass0 (pa_cons (pv 1) pa_nil))))), ?_⟩
    obtain ⟨k1, l1⟩ := kind_kn S d
    refine ⟨_, rfl, _, rfl, a, S, v, d, rfl, hS, hv, ho, fun i hi H1 s1 => ?_, fun h2 H1 s1 dd hdd => ?_⟩
    · subst hi
      cases hv
      exact ⟨_, rfl, _, .int i, rfl, rfl, q H1 s1⟩
    · have xd : upd H1 dd (.xd [("message", .str (("cannot negate " : Str) ++ kindD S d)), ("kind", .str "KindError")]) dd = some (.xd [("message", .str (("cannot negate " : Str) ++ kindD S d)), ("kind", .str "KindError")]) := upd_same
      have s2 := same_upd (o := .xd [("message", .str (("cannot negate " : Str) ++ kindD S d)), ("kind", .str "KindError")]) hdd
      have s12 := s1.trans s2
      generalize upd H1 dd (.xd [("message", .str (("cannot negate " : Str) ++ kindD S d)), ("kind", .str "KindError")]) = H2 at s12 xd
      refine ⟨true, L.x_ScriptError.T.te, fun _ a0 _ => ?_, fun q => Bool.noConfusion q⟩
      refine ⟨_, rfl, rfl, rfl, dd, _, _, rfl, xd, (by rw [lk_skip (by decide +kernel)]; exact lk_hit), _, rfl, rfl, rfl, dd, _, _, rfl, xd, lk_hit, (by show 2 ≤ sizeLine; decide), fun t ht => ?_⟩
      have s3 := same_upd (o := .tup [.str "KindError", .str (("cannot negate " : Str) ++ kindD S d)]) ht
      have lk := kn_short _ l1
      have l14 : (("cannot negate " : Str)).length = 14 := by decide +kernel
      refine ⟨_, rfl, _, rfl, a, S, v, d, rfl, (hS.same s12).same s3, (hv.sv (Same.sv s12)).sv (Same.sv s3), ho, _, _, rfl, rfl, Nat.le_trans (m := 1000) (by rw [k1, l14]; omega) (by decide), by show 2 ≤ sizeLine; decide, fun t2 ht2 => ?_⟩
      have s4 := same_upd (o := .tup [.str "KindError", .str (("cannot negate " : Str) ++ kindD S d)]) ht2
      refine ⟨_, _, ss_dp (s4 _ _ upd_same), ss_dp upd_same, ?_, ?_, ?_⟩
      · exact ss_shape (by decide +kernel) (ok_app (by decide +kernel) (by rw [k1]; exact kn_ok _ l1))
      · exact ss_shape (by decide +kernel) (ok_app (by decide +kernel) (by rw [k1]; exact kn_ok _ l1))
      · rw [eqv_ss, decide_eq_true rfl, decide_eq_true rfl]
        exact q _ ((s12.trans s3).trans s4)
end
end My
namespace My
open PySem L2 SX XT XS XE XD XL
open C8 (pss_cut tCut cutS_slice pe_gc)
section
variable {P : Program} {w : World} {K : PySem.W.Frag} {mg : Str → Option Value} {base : Heap} {A : Ads}
theorem sss_dp {H : Hp} {p : Addr} {x y z : Str} (h : SqT K H p [.str x, .str y, .str z]) : Dp K H (.ref p) (.tuple [.str x, .str y, .str z]) := .tup h (.cons (.str _) (.cons (.str _) (.cons (.str _) .nil)))
theorem ss_dpT {H : Hp} {p : Addr} {x y : Str} (h : SqT K H p [.str x, .str y]) : Dp K H (.ref p) (.tuple [.str x, .str y]) := .tup h (.cons (.str _) (.cons (.str _) .nil))
def spLIs (P : Program) (w : World) (K : PySem.W.Frag) (A : Ads) : Sp := fun vs H Q _ => ∃ (a : Sa) (S : St) (pars : List Dv) (ab t : Addr) (us : List V) (v1 v2 : V) (d1 d2 : Dv), vs = [.ref a.s, .ref ab, v1, v2, .ref t] ∧ Two_ P w A H a S v1 v2 d1 d2 ∧ G18 S pars ∧ pars.length ≤ 1000 ∧ H ab = some (.lst us) ∧ Hs A H us pars ∧
  (kc S d2 ≠ 8 → SqT K H t [.str "raised", .str "KindError", .str "is needs a class"]) ∧ (∀ n, d2 = .obj n → kc S d2 = 8 → SqT K H t [.str "told", .bl (isI S d1 n)]) ∧ ∀ H', Same H H' → Q (.bl true) H'
theorem ok_law_is (L : Lib P K mg A) : FnOk P w K mg base CX0 5 L.law_is.f L.law_is.fd ["store", "above", "x", "y", "told"] (spLIs P w K A) := by
  have G_law_kind : FnOk P w K mg base CX0 3 L.law_kind.f L.law_kind.fd ["store", "value"] (spLK P w A) := ok_law_kind L
  refine L.law_is.F.ok sc_law_is (fun vs H Q E h => ?_) (fun cdv A' outer s H vs Q E hr h => ?_)
  · obtain ⟨a, S, pars, ab, t, us, v1, v2, d1, d2, rfl, _⟩ := h
    rfl
  · obtain ⟨a, S, pars, ab, t, us, v1, v2, d1, d2, rfl, T, g, hpl, hab, hus, h1, h2, q⟩ := h
    have nd := sc_law_is.nd
    refine ⟨_, (pss_cons (ps_if (pt_cmpR op_ne (pe_call G_law_kind (hr.mono (by omega)) (by rfl) L.law_kind.g L.law_kind.F.kp L.law_kind.b .nil pass0 (pa_cons (pv 0) (pa_cons (pv 3) pa_nil))) pe_str (nomark _))
        (pss_one (ps_ret (pe_cmpR (op_eqD (units64 hr)) (pv 4) (pe_tup (pa_cons pe_str (pa_cons pe_str (pa_cons pe_str pa_nil)))) (nomark _))))
        pss_nil)
      (pss_cons (ps_set (i := 5) sc_law_is.nd rfl (.inl rfl) pe_bl)
      (pss_cut (ps_if (pt_cmpR op_eq (pe_call G_law_kind (hr.mono (by omega)) (by rfl) L.law_kind.g L.law_kind.F.kp L.law_kind.b .nil pass0 (pa_cons (pv 0) (pa_cons (pv 2) pa_nil))) pe_str (nomark _))
        (pss_cons (ps_set (i := 6) sc_law_is.nd rfl (.inl rfl) (pe_fld (pe_ix ix_list (pe_fld (pv 0) rfl) (pe_fld (pv 2) rfl) (fun _ _ => rfl)) rfl))
      (pss_one (ps_for PassesOwn.never rfl (pi_range1 (by rfl) L.z_range (pa_cons (pe_op op_add (pe_callB call_len_seq (by rfl) L.z_len PySem.boot_len (pa_cons (pv 1) pa_nil)) pe_int) pa_nil)) (pg_name (i := 7) sc_law_is.nd rfl (.inl rfl))
        (pss_cons (ps_if (pt_cmpR op_isN (pv 6) pe_non (nomark _))
        (pss_one ps_break)
        pss_nil)
      (pss_cons (ps_set (i := 5) sc_law_is.nd rfl (.inl rfl) (pe_or (pv 5) (pe_one (pe_cmpR op_eq (pe_fld (pv 6) rfl) (pe_fld (pv 3) rfl) (nomark _)))))
      (pss_one (ps_set (i := 6) sc_law_is.nd rfl (.inl rfl) (pe_ix ix_list (pv 1) (pe_fld (pv 6) rfl) (fun _ _ => rfl)))))))))
        pss_nil)
      (pss_one (ps_ret (pe_and (pe_cmpR op_eq (pe_ix ix_tup (pv 4) pe_int (fun _ _ => rfl)) pe_str (nomark _)) (pe_and (pe_callB call_isi (by rfl) L.z_isinstance (by decide +kernel) (pa_cons (pe_ix ix_tup (pv 4) pe_int (fun _ _ => rfl)) (pa_cons (pe_bltn (v := .ty "bool") (by rfl) L.z_bool (by decide +kernel) rfl) pa_nil))) (pe_one (pe_cmpR op_eq (pe_ix ix_tup (pv 4) pe_int (fun _ _ => rfl)) (pv 5) (nomark _)))))))))), ?_⟩
    obtain ⟨k1, l1⟩ := kind_kn S d1
    obtain ⟨k2, l2⟩ := kind_kn S d2
    refine ⟨_, rfl, _, rfl, a, S, v2, d2, rfl, T.sm, T.h2, T.o2, rfl, _, rfl, ?_⟩
    rw [k2, kn_class _ l2]
    by_cases h8 : kc S d2 = 8
    · rw [decide_eq_true h8]
      refine iteF ?_
      obtain ⟨n, nm, par, ms, rfl, hn⟩ := kc8 h8
      have ht := h2 n rfl h8
      let M : List (Option V) → Hp → Prop := fun σ' H' => ∃ (y6 y7 : Option V), σ' = [some (.ref a.s), some (.ref ab), some v1, some v2, some (.ref t), some (.bl (isI S d1 n)), y6, y7] ∧ H' = H
      refine ⟨M, ?_, ?_⟩
      · refine ⟨_, rfl, _, rfl, a, S, v1, d1, rfl, T.sm, T.h1, T.o1, rfl, _, rfl, ?_⟩
        rw [k1, kn_inst _ l1]
        by_cases h7 : kc S d1 = 7
        · rw [decide_eq_true h7]
          refine iteT ?_
          obtain ⟨k, o, nso, rfl, hk⟩ := kc7 h7
          obtain ⟨x, mm, hx, hm, dx, vo, kvs, a1, a2, a3⟩ := T.sm.get hk
          obtain ⟨dsx, hs0⟩ := T.sm.s_
          obtain ⟨b, db, rfl, hb⟩ := id T.h1
          obtain ⟨c, dc, rfl, hc⟩ := id T.h2
          obtain ⟨ko, rfl, hko⟩ := g.owns k o nso hk
          have hul := hus.len
          have hF : pars.length ≤ S.things.length := g.le
          have eI : isI S (.obj k) n = bel S S.things.length (.obj ko) n := by
            show (match S.things[k]? with
              | some (.inst o _) => bel S S.things.length o n
              | _ => false) = _
            rw [hk]
          refine ⟨_, rfl, a.s, A.Store, dsx, _, _, rfl, hs0, L.c_Store.cl, L.n_Store_things, st_things _ _ _ _, _, rfl, b, A.Ref, db, _, _, rfl, hb, L.c_Ref.cl, L.n_Ref_number, lk_hit, a.t, _, _, .ref x, rfl, rfl, SqL.of T.sm.t_, atI_nat (by rw [List.getElem?_map, hx]; rfl), x, A.Instance, dx, _, vo, rfl, a1, L.c_Instance.cl, L.n_Instance_owner, lk_hit, ?_⟩
          refine ⟨_, rfl, ab, us, rfl, .inl (SqL.of hab), _, _, rfl, rfl, ((pars.length + 1 : Nat) : Int), by show [V.int ((us.length : Nat) + 1)] = [V.int ((pars.length + 1 : Nat) : Int)]; rw [hul]; rfl, by omega, by omega, for_range (n := pars.length + 1) (fun i σ H' => ∃ (kv : V) (kd : Dv) (bb : Bool) (yk : Option V), σ = [some (.ref a.s), some (.ref ab), some (.ref b), some (.ref c), some (.ref t), some (.bl bb), some kv, yk] ∧ H' = H ∧ Has A H kv kd ∧ okK pars.length kd ∧ rank kd ≤ pars.length - i ∧ (bb || bel S S.things.length kd n) = isI S (.obj k) n) ⟨vo, .obj ko, false, none, rfl, rfl, a2, .inr ⟨ko, rfl, hko⟩, by show ko + 1 ≤ _; omega, by rw [eI]; rfl⟩ ?_ ?_⟩
          · rintro i σ H1 hi ⟨kv, kd, bb, yk, rfl, rfl, hkv, hkd, hrk, hbb⟩
            rw [Int.zero_add]
            refine ⟨_, rfl, rfl, _, rfl, ?_⟩
            rcases hkd with rfl | ⟨kk, rfl, hkk⟩
            · cases hkv
              have : bel S S.things.length .non n = false := by cases S.things.length <;> rfl
              rw [this, Bool.or_false] at hbb
              subst hbb
              exact iteT ⟨_, _, rfl, rfl⟩
            · obtain ⟨r, dr, rfl, hr'⟩ := id hkv
              refine iteF ?_
              obtain ⟨⟨nm', ms', e1⟩, hp⟩ := g.kin kk _ (List.getElem?_eq_getElem hkk)
              obtain ⟨pv, hpv, hph⟩ := hus.at (List.getElem?_eq_getElem hkk)
              generalize pars[kk] = pd at e1 hp hph
              have hrk : kk + 1 ≤ pars.length - i := hrk
              have okp : okK pars.length pd := by
                rcases hp with rfl | ⟨j, rfl, hj⟩
                · exact .inl rfl
                · exact .inr ⟨j, rfl, by omega⟩
              have rkp : rank pd ≤ kk := by
                rcases hp with rfl | ⟨j, rfl, hj⟩
                · exact Nat.zero_le _
                · show j + 1 ≤ kk
                  omega
              have eb : bel S S.things.length (.obj kk) n = (decide (kk = n) || bel S S.things.length pd n) := by
                obtain ⟨f, hf⟩ : ∃ f, S.things.length = f + 1 := ⟨S.things.length - 1, by omega⟩
                rw [bel_fuel g.kins (n := n) S.things.length (f + 1) (.obj kk) (.inr ⟨kk, rfl, hkk⟩) (show kk + 1 ≤ _ by omega) (show kk + 1 ≤ _ by omega), bel_fuel g.kins (n := n) S.things.length f pd okp (by omega) (by omega)]
                show (if kk = n then true else match S.things[kk]? with
                  | some (.kin _ par _) => bel S f par n
                  | _ => false) = _
                rw [e1]
                by_cases hkn : kk = n
                · rw [if_pos hkn, decide_eq_true hkn]; rfl
                · rw [if_neg hkn, decide_eq_false hkn]; rfl
              have tail : ∀ b2 : Bool, (b2 || bel S S.things.length pd n) = isI S (.obj k) n → ∃ (kv : V) (kd : Dv) (bb : Bool) (yk : Option V), ([some (.ref a.s), some (.ref ab), some (.ref b), some (.ref c), some (.ref t), some (.bl b2), some pv, some (V.int (i : Nat))] : List (Option V)) = [some (.ref a.s), some (.ref ab), some (.ref b), some (.ref c), some (.ref t), some (.bl bb), some kv, yk] ∧ H1 = H1 ∧ Has A H1 kv kd ∧ okK pars.length kd ∧ rank kd ≤ pars.length - (i + 1) ∧ (bb || bel S S.things.length kd n) = isI S (.obj k) n := fun b2 hb2 => ⟨pv, pd, b2, _, rfl, rfl, hph, okp, by omega, hb2⟩
              refine ⟨_, rfl, bb, rfl, ?_⟩
              cases bb with
              | true =>
                refine iteT ⟨_, rfl, _, rfl, r, A.Ref, dr, _, _, rfl, hr', L.c_Ref.cl, L.n_Ref_number, lk_hit, ab, _, _, pv, rfl, rfl, SqL.of hab, atI_nat hpv, tail true ?_⟩
                rw [← hbb]; rfl
              | false =>
                refine iteF ⟨_, rfl, r, A.Ref, dr, _, _, rfl, hr', L.c_Ref.cl, L.n_Ref_number, lk_hit, _, rfl, c, A.Ref, dc, _, _, rfl, hc, L.c_Ref.cl, L.n_Ref_number, lk_hit, rfl, ?_⟩
                have en : decide (V.int ((kk : Nat) : Int) = V.int ((n : Nat) : Int)) = decide (kk = n) := by
                  rw [decide_eq_decide]
                  constructor
                  · intro z; injection z with z; omega
                  · intro z; rw [z]
                refine ⟨_, rfl, _, rfl, r, A.Ref, dr, _, _, rfl, hr', L.c_Ref.cl, L.n_Ref_number, lk_hit, ab, _, _, pv, rfl, rfl, SqL.of hab, atI_nat hpv, ?_⟩
                have := tail (decide (kk = n)) (by rw [← eb, ← hbb]; rfl)
                rw [← en] at this
                exact this
          · rintro σ H1 ⟨kv, kd, bb, yk, rfl, rfl, hkv, hkd, hrk, hbb⟩
            have : kd = .non := by
              rcases hkd with rfl | ⟨kk, rfl, hkk⟩
              · rfl
              · have hrk : kk + 1 ≤ _ := hrk
                omega
            subst this
            have : bel S S.things.length .non n = false := by cases S.things.length <;> rfl
            rw [this, Bool.or_false] at hbb
            subst hbb
            exact ⟨_, _, rfl, rfl⟩
        · rw [decide_eq_false h7]
          refine iteF ⟨none, none, ?_, rfl⟩
          rw [isI_no h7]
          rfl
      · rintro σ' H' ⟨y6, y7, rfl, rfl⟩
        refine ⟨_, rfl, t, _, _, .str "told", rfl, rfl, ht, atI_nat (j := 0) rfl, rfl, true, by rw [decide_eq_true rfl], iteT ?_⟩
        refine ⟨_, rfl, t, _, _, .bl _, rfl, rfl, ht, atI_nat (j := 1) rfl, _, .ty "bool", _, .type "bool", _, rfl, .ty _, .base (.bl _), kit_ty (show kitB "bool" "bool" = some true by decide +kernel), _, rfl, iteT ?_⟩
        refine ⟨_, rfl, t, _, _, .bl _, rfl, rfl, ht, atI_nat (j := 1) rfl, _, rfl, rfl, ?_⟩
        rw [decide_eq_true rfl]
        exact q _ fun _ _ e => e
    · rw [decide_eq_false h8]
      refine iteT ⟨_, rfl, by show 3 ≤ sizeLine; decide, fun t2 nt2 => ?_⟩
      have s1 := same_upd (o := .tup [.str "raised", .str "KindError", .str "is needs a class"]) nt2
      refine ⟨_, _, sss_dp (sqt_same s1 (h1 h8)), sss_dp (SqT.of upd_same), sss_shape (by decide +kernel) (by decide +kernel) (by decide +kernel), sss_shape (by decide +kernel) (by decide +kernel) (by decide +kernel), ?_⟩
      rw [eqv_sss, decide_eq_true rfl, decide_eq_true rfl, decide_eq_true rfl]
      exact q _ s1
end
end My
namespace My
open PySem L2 SX XT XS XE XD XL
open C8 (pss_cut tCut cutS_slice pe_gc)
def dInt : Dv → PyData
  | .int i => .int i
  | _ => .none
theorem lay_ints : ∀ l : List Dv, (∀ d ∈ l, ∃ i, d = Dv.int i) → PyData.canLayAll0 (l.map dInt) = true ∧ PyData.depthAll (l.map dInt) ≤ 1
  | [], _ => by simp [PyData.canLayAll0, PyData.depthAll]
  | d :: r, h => by
    obtain ⟨i, rfl⟩ := h d (by simp)
    obtain ⟨h1, h2⟩ := lay_ints r fun d hd => h d (by simp [hd])
    simp only [List.map_cons, dInt, PyData.canLayAll0, PyData.canLay0, PyData.depthAll, PyData.depth]
    exact ⟨by rw [h1]; rfl, by omega⟩
theorem ints_shape {l : List Dv} (h : ∀ d ∈ l, ∃ i, d = Dv.int i) : SeqAt.shaped (.list (l.map dInt)) = true := by
  obtain ⟨h1, h2⟩ := lay_ints l h
  have e1 : PyData.canLay0 (.list (l.map dInt)) = true := by simpa [PyData.canLay0] using h1
  have e2 : PyData.depth (.list (l.map dInt)) ≤ 64 := by
    simp only [PyData.depth]
    omega
  unfold SeqAt.shaped
  rw [e1, decide_eq_true e2]
  rfl
theorem dp_ints {A : Ads} {K : PySem.W.Frag} {H : Hp} : ∀ {vs : List V} {ds : List Dv}, Hs A H vs ds → (∀ d ∈ ds, ∃ i, d = Dv.int i) → DpAll K H vs (ds.map dInt)
  | [], [], _, _ => .nil
  | v :: vs, d :: ds, h, k => by
    obtain ⟨i, rfl⟩ := k d (by simp)
    obtain ⟨h1, h2⟩ := h
    cases h1
    exact .cons (.int i) (dp_ints h2 fun d hd => k d (by simp [hd]))
  | [], _ :: _, h, _ => h.elim
  | _ :: _, [], h, _ => h.elim
/-- what an addition told, and what it left -/
def AddT (K : PySem.W.Frag) (A : Ads) (S S' : St) (H : Hp) (t : Addr) (d1 d2 : Dv) : Prop :=
  (∃ x y, d1 = .str x ∧ d2 = .str y ∧ x.length ≤ 1000 ∧ y.length ≤ 1000 ∧ PyData.strOk x = true ∧ PyData.strOk y = true ∧ S' = S ∧ ((1000 < x.length + y.length ∧ SqT K H t [.str "raised", .str "SizeError", .str "too large"]) ∨ (x.length + y.length ≤ 1000 ∧ SqT K H t [.str "told", .str (x ++ y)]))) ∨
  (∃ n1 n2 es fs, d1 = .obj n1 ∧ d2 = .obj n2 ∧ S'.things[n1]? = some (.parts es) ∧ S'.things[n2]? = some (.parts fs) ∧ es.length ≤ 1000 ∧ fs.length ≤ 1000 ∧ (∀ d ∈ es, ∃ i, d = Dv.int i) ∧ (∀ d ∈ fs, ∃ i, d = Dv.int i) ∧
    ((1000 < es.length + fs.length ∧ S' = S ∧ SqT K H t [.str "raised", .str "SizeError", .str "too large"]) ∨
     (es.length + fs.length ≤ 1000 ∧ S'.things.length = S.things.length + 1 ∧ S'.things[S.things.length]? = some (.parts (es ++ fs)) ∧ ∃ r, SqT K H t [.str "told", .ref r] ∧ Has A H (.ref r) (.obj S.things.length)))) ∨
  (¬ (kc S' d1 = 3 ∧ kc S' d2 = 3) ∧ ¬ (kc S' d1 = 5 ∧ kc S' d2 = 5) ∧ S' = S ∧ SqT K H t [.str "raised", .str "KindError", .str (msgO "add" (kindD S' d1) (kindD S' d2))])
def spLA (P : Program) (w : World) (K : PySem.W.Frag) (A : Ads) : Sp := fun vs H Q _ => ∃ (a : Sa) (S S' : St) (v1 v2 : V) (d1 d2 : Dv) (t : Addr), vs = [.ref a.s, v1, v2, .ref t, .int ((S.things.length : Nat) : Int)] ∧ Two_ P w A H a S' v1 v2 d1 d2 ∧ AddT K A S S' H t d1 d2 ∧ ∀ H', Same H H' → Q (.bl true) H'
theorem msgO_add (k1 k2 : Str) : msgO "add" k1 k2 = ("cannot add " : Str) ++ k1 ++ (" and " : Str) ++ k2 := by
  have : ("cannot " : Str) ++ ("add" : Str) ++ (" " : Str) = ("cannot add " : Str) := by decide +kernel
  unfold msgO
  rw [this]
section
variable {P : Program} {w : World} {K : PySem.W.Frag} {mg : Str → Option Value} {base : Heap} {A : Ads}
theorem ok_law_added (L : Lib P K mg A) : FnOk P w K mg base CX0 5 L.law_added.f L.law_added.fd ["store", "x", "y", "told", "many"] (spLA P w K A) := by
  have G_law_kind : FnOk P w K mg base CX0 3 L.law_kind.f L.law_kind.fd ["store", "value"] (spLK P w A) := ok_law_kind L
  have G_Ref_init : FnOk P w K mg base CX0 1 L.Ref_init.f L.Ref_init.fd ["self", "number"] (spI1 A.Ref "number") := ok_Ref_init L
  refine L.law_added.F.ok sc_law_added (fun vs H Q E h => ?_) (fun cdv A' outer s H vs Q E hr h => ?_)
  · obtain ⟨a, S, S', v1, v2, d1, d2, t, rfl, _⟩ := h
    rfl
  · obtain ⟨a, S, S', v1, v2, d1, d2, t, rfl, T, hT, q⟩ := h
    have nd := sc_law_added.nd
    refine ⟨_, (pss_cons (ps_set (i := 5) sc_law_added.nd rfl (.inl rfl) (pe_tup (pa_cons (pe_call G_law_kind (hr.mono (by omega)) (by rfl) L.law_kind.g L.law_kind.F.kp L.law_kind.b .nil pass0 (pa_cons (pv 0) (pa_cons (pv 1) pa_nil))) (pa_cons (pe_call G_law_kind (hr.mono (by omega)) (by rfl) L.law_kind.g L.law_kind.F.kp L.law_kind.b .nil pass0 (pa_cons (pv 0) (pa_cons (pv 2) pa_nil))) pa_nil))))
      (pss_cons (ps_if (pt_cmpR (op_eqD (units64 hr)) (pv 5) (pe_tup (pa_cons pe_str (pa_cons pe_str pa_nil))) (nomark _))
        (pss_cons (ps_if (pt_cmpR op_gt (pe_op op_add (pe_callB call_len_str (by rfl) L.z_len PySem.boot_len (pa_cons (pv 1) pa_nil)) (pe_callB call_len_str (by rfl) L.z_len PySem.boot_len (pa_cons (pv 2) pa_nil))) pe_int (nomark _))
        (pss_one (ps_ret (pe_and (pe_cmpR (op_eqD (units64 hr)) (pv 3) (pe_tup (pa_cons pe_str (pa_cons pe_str (pa_cons pe_str pa_nil)))) (nomark _)) (pe_one (pe_cmpR op_eq (pe_callB call_len_seq (by rfl) L.z_len PySem.boot_len (pa_cons (pe_fld (pv 0) rfl) pa_nil)) (pv 4) (nomark _))))))
        pss_nil)
      (pss_one (ps_ret (pe_and (pe_cmpR (op_eqD (units64 hr)) (pv 3) (pe_tup (pa_cons pe_str (pa_cons (pe_op op_add_str (pv 1) (pv 2)) pa_nil))) (nomark _)) (pe_one (pe_cmpR op_eq (pe_callB call_len_seq (by rfl) L.z_len PySem.boot_len (pa_cons (pe_fld (pv 0) rfl) pa_nil)) (pv 4) (nomark _)))))))
        pss_nil)
      (pss_cons (ps_if (pt_cmpR (op_eqD (units64 hr)) (pv 5) (pe_tup (pa_cons pe_str (pa_cons pe_str pa_nil))) (nomark _))
        (pss_cons (ps_set (i := 6) sc_law_added.nd rfl (.inl rfl) (pe_fld (pe_ix ix_list (pe_fld (pv 0) rfl) (pe_fld (pv 1) rfl) (fun _ _ => rfl)) rfl))
      (pss_cons (ps_set (i := 7) sc_law_added.nd rfl (.inl rfl) (pe_fld (pe_ix ix_list (pe_fld (pv 0) rfl) (pe_fld (pv 2) rfl) (fun _ _ => rfl)) rfl))
      (pss_cons (ps_if (pt_cmpR op_gt (pe_op op_add (pe_callB call_len_seq (by rfl) L.z_len PySem.boot_len (pa_cons (pv 6) pa_nil)) (pe_callB call_len_seq (by rfl) L.z_len PySem.boot_len (pa_cons (pv 7) pa_nil))) pe_int (nomark _))
        (pss_one (ps_ret (pe_and (pe_cmpR (op_eqD (units64 hr)) (pv 3) (pe_tup (pa_cons pe_str (pa_cons pe_str (pa_cons pe_str pa_nil)))) (nomark _)) (pe_one (pe_cmpR op_eq (pe_callB call_len_seq (by rfl) L.z_len PySem.boot_len (pa_cons (pe_fld (pv 0) rfl) pa_nil)) (pv 4) (nomark _))))))
        pss_nil)
      (pss_cons (ps_if (PW.pt (pw_or (pt_cmpR (op_neTold L (hr.mono (by omega))) (pv 3) (pe_tup (pa_cons pe_str (pa_cons (pe_make L.Ref_init.m G_Ref_init (hr.mono (by omega)) (by rfl) L.c_Ref.g L.Ref_init.b .nil pass0 (pa_cons (pv 4) pa_nil)) pa_nil))) (nomark _)) (pw_or1 (pt_cmpR op_ne (pe_callB call_len_seq (by rfl) L.z_len PySem.boot_len (pa_cons (pe_fld (pv 0) rfl) pa_nil)) (pe_op op_add (pv 4) pe_int) (nomark _)))))
        (pss_one (ps_ret pe_bl))
        pss_nil)
      (pss_one (ps_ret (pe_cmpR (op_eqD (units64 hr)) (pe_fld (pe_ix ix_list (pe_fld (pv 0) rfl) (pv 4) (fun _ _ => rfl)) rfl) (pe_op op_cat (pv 6) (pv 7)) (nomark _))))))))
        pss_nil)
      (pss_cons (ps_set (i := 8) sc_law_added.nd rfl (.inl rfl) (pe_tup (pa_cons pe_str (pa_cons pe_str (pa_cons (pe_op op_add_str (pe_op op_add_str (pe_op op_add_str pe_str (pe_ix ix_tup (pv 5) pe_int (fun _ _ => rfl))) pe_str) (pe_ix ix_tup (pv 5) pe_int (fun _ _ => rfl))) pa_nil)))))
      (pss_one (ps_ret (pe_and (pe_cmpR (op_eqD (units64 hr)) (pv 3) (pv 8) (nomark _)) (pe_one (pe_cmpR op_eq (pe_callB call_len_seq (by rfl) L.z_len PySem.boot_len (pa_cons (pe_fld (pv 0) rfl) pa_nil)) (pv 4) (nomark _)))))))))), ?_⟩
    obtain ⟨k1, l1⟩ := kind_kn S' d1
    obtain ⟨k2, l2⟩ := kind_kn S' d2
    have bd : ∀ n : Nat, n ≤ 100000 → n ≤ sizeLine := fun n h => Nat.le_trans h (by decide)
    refine ⟨_, rfl, _, rfl, a, S', v1, d1, rfl, T.sm, T.h1, T.o1, _, rfl, _, rfl, a, S', v2, d2, rfl, T.sm, T.h2, T.o2, (by show 2 ≤ sizeLine; decide), fun p np => ?_⟩
    have s1 := same_upd (o := .tup [.str (kindD S' d1), .str (kindD S' d2)]) np
    have hp := upd_same (H := H) (a := p) (o := .tup [.str (kindD S' d1), .str (kindD S' d2)])
    generalize upd H p (.tup [.str (kindD S' d1), .str (kindD S' d2)]) = H1 at s1 hp
    rw [k1, k2] at hp
    refine ⟨_, rfl, (by show 2 ≤ sizeLine; decide), fun r2 nr2 => ?_⟩
    have s2 := same_upd (o := .tup [.str "text", .str "text"]) nr2
    have hp2 := s2 _ _ hp
    refine ⟨_, _, kk_dp hp2, ss_dp upd_same, kk_shape _ l1 _ l2, by decide +kernel, _, rfl, ?_⟩
    rw [kk_text _ l1 _ l2]
    have s12 := s1.trans s2
    generalize upd H1 r2 (.tup [.str "text", .str "text"]) = H2 at s12 hp2
    have T2 := T.same s12
    obtain ⟨dsx, hs2⟩ := T2.sm.s_
    have many : ∀ {H3 : Hp}, Same H2 H3 → S'.things.length = S.things.length → ∃ (p : Addr) (ys : List V), V.ref a.t = V.ref p ∧ (SqL K H3 p ys ∨ SqT K H3 p ys) ∧ decide (V.int ((ys.length : Nat) : Int) = V.int ((S.things.length : Nat) : Int)) = true := fun s h => ⟨a.t, _, rfl, .inl (SqL.of (s _ _ T2.sm.t_)), decide_eq_true (by rw [List.length_map, T2.sm.lx, h])⟩
    have raisedEq : ∀ {H3 : Hp} {k m : Str} (h : SqT K H3 t [.str "raised", .str k, .str m]), PyData.strOk k = true → PyData.strOk m = true → True := fun _ _ _ => trivial
    rcases hT with ⟨x, y, rfl, rfl, hx, hy, okx, oky, rfl, hT⟩ | ⟨n1, n2, es, fs, rfl, rfl, hn1, hn2, hes, hfs, ies, ifs, hT⟩ | ⟨n3, n5, rfl, hT⟩
    · refine ifT (decide_eq_true ⟨rfl, rfl⟩) ?_
      cases T.h1
      cases T.h2
      refine ⟨_, rfl, x, rfl, bd _ (by omega), _, rfl, y, rfl, bd _ (by omega), _, _, rfl, rfl, _, _, rfl, rfl, _, rfl, ?_⟩
      rcases hT with ⟨hlt, ht⟩ | ⟨hle, ht⟩
      · refine ifT (decide_eq_true (by omega)) ?_
        refine ⟨_, rfl, by show 3 ≤ sizeLine; decide, fun t2 nt2 => ?_⟩
        have s3 := same_upd (o := .tup [.str "raised", .str "SizeError", .str "too large"]) nt2
        refine ⟨_, _, sss_dp (sqt_same s3 (sqt_same s12 ht)), sss_dp (SqT.of upd_same), sss_shape (by decide +kernel) (by decide +kernel) (by decide +kernel), sss_shape (by decide +kernel) (by decide +kernel) (by decide +kernel), _, rfl, ?_⟩
        rw [eqv_sss, decide_eq_true rfl, decide_eq_true rfl, decide_eq_true rfl]
        refine iteT ⟨_, rfl, a.s, A.Store, dsx, _, _, rfl, s3 _ _ hs2, L.c_Store.cl, L.n_Store_things, st_things _ _ _ _, a.t, _, rfl, .inl (SqL.of (s3 _ _ T2.sm.t_)), _, rfl, rfl, ?_⟩
        rw [List.length_map, T2.sm.lx, decide_eq_true rfl]
        exact q _ (s12.trans s3)
      · refine ifF (decide_eq_false (by omega)) ?_
        refine ⟨_, rfl, _, rfl, _, rfl, _, _, rfl, rfl, bd _ (by omega), by show 2 ≤ sizeLine; decide, fun t2 nt2 => ?_⟩
        have s3 := same_upd (o := .tup [.str "told", .str (x ++ y)]) nt2
        refine ⟨_, _, ss_dpT (sqt_same s3 (sqt_same s12 ht)), ss_dp upd_same, ss_shape (by decide +kernel) (ok_app okx oky), ss_shape (by decide +kernel) (ok_app okx oky), _, rfl, ?_⟩
        rw [eqv_ss, decide_eq_true rfl, decide_eq_true rfl]
        refine iteT ⟨_, rfl, a.s, A.Store, dsx, _, _, rfl, s3 _ _ hs2, L.c_Store.cl, L.n_Store_things, st_things _ _ _ _, a.t, _, rfl, .inl (SqL.of (s3 _ _ T2.sm.t_)), _, rfl, rfl, ?_⟩
        rw [List.length_map, T2.sm.lx, decide_eq_true rfl]
        exact q _ (s12.trans s3)
    · have k5 : kc S' (.obj n1) = 5 ∧ kc S' (.obj n2) = 5 := ⟨by show kcT S'.things[n1]? = 5; rw [hn1]; rfl, by show kcT S'.things[n2]? = 5; rw [hn2]; rfl⟩
      refine ifF (decide_eq_false fun z => by rw [k5.1] at z; exact absurd z.1 (by decide)) ?_
      refine ⟨_, rfl, (by show 2 ≤ sizeLine; decide), fun r3 nr3 => ?_⟩
      have s3 := same_upd (o := .tup [.str "list", .str "list"]) nr3
      refine ⟨_, _, kk_dp (s3 _ _ hp2), ss_dp upd_same, kk_shape _ l1 _ l2, by decide +kernel, _, rfl, ?_⟩
      rw [kk_list _ l1 _ l2, decide_eq_true k5]
      refine iteT ?_
      have s13 := s12.trans s3
      generalize upd H2 r3 (.tup [.str "list", .str "list"]) = H3 at s3 s13
      have T3 := T.same s13
      have hs3 := s3 _ _ hs2
      obtain ⟨x1, m1, hx1, hm1, dx1, us1, a1, a2, a3⟩ := T3.sm.get hn1
      obtain ⟨x2, m2, hx2, hm2, dx2, us2, b1, b2, b3⟩ := T3.sm.get hn2
      obtain ⟨r1, dr1, er1, hr1⟩ := id T3.h1
      obtain ⟨r2', dr2, er2, hr2⟩ := id T3.h2
      cases er1
      cases er2
      have lu1 := a3.len
      have lu2 := b3.len
      refine ⟨_, rfl, a.s, A.Store, dsx, _, _, rfl, hs3, L.c_Store.cl, L.n_Store_things, st_things _ _ _ _, _, rfl, r1, A.Ref, dr1, _, _, rfl, hr1, L.c_Ref.cl, L.n_Ref_number, lk_hit, a.t, _, _, .ref x1, rfl, rfl, SqL.of T3.sm.t_, atI_nat (by rw [List.getElem?_map, hx1]; rfl), x1, A.Parts, dx1, _, .ref m1, rfl, a1, L.c_Parts.cl, L.n_Parts_held, lk_hit, ?_⟩
      refine ⟨_, rfl, a.s, A.Store, dsx, _, _, rfl, hs3, L.c_Store.cl, L.n_Store_things, st_things _ _ _ _, _, rfl, r2', A.Ref, dr2, _, _, rfl, hr2, L.c_Ref.cl, L.n_Ref_number, lk_hit, a.t, _, _, .ref x2, rfl, rfl, SqL.of T3.sm.t_, atI_nat (by rw [List.getElem?_map, hx2]; rfl), x2, A.Parts, dx2, _, .ref m2, rfl, b1, L.c_Parts.cl, L.n_Parts_held, lk_hit, ?_⟩
      refine ⟨_, rfl, m1, us1, rfl, .inl (SqL.of a2), _, rfl, m2, us2, rfl, .inl (SqL.of b2), _, _, rfl, rfl, _, _, rfl, rfl, _, rfl, ?_⟩
      rcases hT with ⟨hlt, rfl, ht⟩ | ⟨hle, hl, hnew, r, ht, hr⟩
      · refine ifT (decide_eq_true (by omega)) ?_
        refine ⟨_, rfl, by show 3 ≤ sizeLine; decide, fun t2 nt2 => ?_⟩
        have s4 := same_upd (o := .tup [.str "raised", .str "SizeError", .str "too large"]) nt2
        refine ⟨_, _, sss_dp (sqt_same s4 (sqt_same s13 ht)), sss_dp (SqT.of upd_same), sss_shape (by decide +kernel) (by decide +kernel) (by decide +kernel), sss_shape (by decide +kernel) (by decide +kernel) (by decide +kernel), _, rfl, ?_⟩
        rw [eqv_sss, decide_eq_true rfl, decide_eq_true rfl, decide_eq_true rfl]
        refine iteT ⟨_, rfl, a.s, A.Store, dsx, _, _, rfl, s4 _ _ hs3, L.c_Store.cl, L.n_Store_things, st_things _ _ _ _, a.t, _, rfl, .inl (SqL.of (s4 _ _ T3.sm.t_)), _, rfl, rfl, ?_⟩
        rw [List.length_map, T2.sm.lx, decide_eq_true rfl]
        exact q _ (s13.trans s4)
      · refine ifF (decide_eq_false (by omega)) ?_
        obtain ⟨rr, drr, err, hrr⟩ := id hr
        cases err
        refine ⟨_, rfl, _, rfl, ?_⟩
        intro u du nu ndu nduu
        refine ⟨u, du, _, rfl, upd_same, fun H4 k4 hu => ⟨rfl, ?_⟩⟩
        have s4 := Same.made nu ndu k4
        refine ⟨by show 2 ≤ sizeLine; decide, fun t2 nt2 => ?_⟩
        have s5 := same_upd (o := .tup [.str "told", .ref u]) nt2
        have s35 := s4.trans s5
        have s15 := s13.trans s35
        refine ⟨t, t2, r, u, S.things.length, drr, du, "told", rfl, rfl, sqt_same s15 ht, SqT.of upd_same, s15 _ _ hrr, s5 _ _ hu, fun H6 s6 => ⟨_, rfl, iteF ?_⟩⟩
        have s36 := s35.trans s6
        have T6 := T3.same s36
        have hs6 := s36 _ _ hs3
        refine ⟨_, rfl, a.s, A.Store, dsx, _, _, rfl, hs6, L.c_Store.cl, L.n_Store_things, st_things _ _ _ _, a.t, _, rfl, .inl (SqL.of T6.sm.t_), _, rfl, _, _, rfl, rfl, rfl, _, rfl, ?_⟩
        have e0 : (!decide (V.int (((a.X.map V.ref).length : Nat) : Int) = V.int (((S.things.length : Nat) : Int) + 1))) = false := by
          have : (((a.X.map V.ref).length : Nat) : Int) = ((S.things.length : Nat) : Int) + 1 := by rw [List.length_map, T6.sm.lx, hl]; omega
          rw [this, decide_eq_true rfl]
          rfl
        refine ifF e0 ?_
        obtain ⟨x3, m3, hx3, hm3, dx3, us3, c1, c2, c3⟩ := T6.sm.get hnew
        refine ⟨_, rfl, a.s, A.Store, dsx, _, _, rfl, hs6, L.c_Store.cl, L.n_Store_things, st_things _ _ _ _, _, rfl, a.t, _, _, .ref x3, rfl, rfl, SqL.of T6.sm.t_, atI_nat (by rw [List.getElem?_map, hx3]; rfl), x3, A.Parts, dx3, _, .ref m3, rfl, c1, L.c_Parts.cl, L.n_Parts_held, lk_hit, ?_⟩
        refine ⟨_, rfl, _, rfl, m1, m2, us1, us2, rfl, rfl, s36 _ _ a2, s36 _ _ b2, Nat.le_trans (m := 2000) (by omega) (by decide), fun l nl => ?_⟩
        have s7 := same_upd (o := .lst (us1 ++ us2)) nl
        have s37 := s36.trans s7
        have iall : ∀ d ∈ es ++ fs, ∃ i, d = Dv.int i := fun d hd => (List.mem_append.mp hd).elim (ies d) (ifs d)
        refine ⟨.list ((es ++ fs).map dInt), .list ((es ++ fs).map dInt), .lst (SqL.of (s7 _ _ c2)) (dp_ints (c3.imp fun _ _ h => h.sv (Same.sv s7)) iall), .lst (SqL.of upd_same) (dp_ints (Hs.app (a3.imp fun _ _ h => h.sv (Same.sv s37)) (b3.imp fun _ _ h => h.sv (Same.sv s37))) iall), ints_shape iall, ints_shape iall, ?_⟩
        rw [SeqAt.eqv_refl _ (SeqAt.canLay_of_shaped (ints_shape iall))]
        exact q _ (s13.trans s37)
    · refine ifF (decide_eq_false n3) ?_
      refine ⟨_, rfl, (by show 2 ≤ sizeLine; decide), fun r3 nr3 => ?_⟩
      have s3 := same_upd (o := .tup [.str "list", .str "list"]) nr3
      refine ⟨_, _, kk_dp (s3 _ _ hp2), ss_dp upd_same, kk_shape _ l1 _ l2, by decide +kernel, _, rfl, ?_⟩
      rw [kk_list _ l1 _ l2, decide_eq_false n5]
      refine iteF ?_
      have s13 := s12.trans s3
      have hp3 := s3 _ _ hp2
      have hs3 := s3 _ _ hs2
      generalize upd H2 r3 (.tup [.str "list", .str "list"]) = H3 at s3 s13 hp3 hs3
      have T3 := T.same s13
      have lk1 := kn_short _ l1
      have lk2 := kn_short _ l2
      have l11 : (("cannot add " : Str)).length = 11 := by decide +kernel
      have l5 : ((" and " : Str)).length = 5 := by decide +kernel
      refine ⟨_, rfl, p, _, _, _, rfl, rfl, SqT.of hp3, atI_nat (j := 0) rfl, _, _, rfl, rfl, bd _ (by rw [l11]; omega), _, _, rfl, rfl, bd _ (by rw [Str.length_append, l11, l5]; omega), _, rfl, p, _, _, _, rfl, rfl, SqT.of hp3, atI_nat (j := 1) rfl, _, _, rfl, rfl, bd _ (by rw [Str.length_append, Str.length_append, l11, l5]; omega), by show 3 ≤ sizeLine; decide, fun t2 nt2 => ?_⟩
      rw [k1, k2, msgO_add] at hT
      have s4 := same_upd (o := .tup [.str "raised", .str "KindError", .str (("cannot add " : Str) ++ kn (kc S' d1) ++ (" and " : Str) ++ kn (kc S' d2))]) nt2
      have okm : PyData.strOk (("cannot add " : Str) ++ kn (kc S' d1) ++ (" and " : Str) ++ kn (kc S' d2)) = true := ok_app (ok_app (ok_app (by decide +kernel) (kn_ok _ l1)) (by decide +kernel)) (kn_ok _ l2)
      refine ⟨_, rfl, _, rfl, _, _, sss_dp (sqt_same s4 (sqt_same s13 hT)), sss_dp (SqT.of upd_same), sss_shape (by decide +kernel) (by decide +kernel) okm, sss_shape (by decide +kernel) (by decide +kernel) okm, _, rfl, ?_⟩
      rw [eqv_sss, decide_eq_true rfl, decide_eq_true rfl, decide_eq_true rfl]
      refine iteT ⟨_, rfl, a.s, A.Store, dsx, _, _, rfl, s4 _ _ hs3, L.c_Store.cl, L.n_Store_things, st_things _ _ _ _, a.t, _, rfl, .inl (SqL.of (s4 _ _ T3.sm.t_)), _, rfl, rfl, ?_⟩
      rw [List.length_map, T2.sm.lx, decide_eq_true rfl]
      exact q _ (s13.trans s4)
end
end My
namespace My
open PySem L2 SX XT XS XE XD XL
open C8 (pss_cut tCut cutS_slice pe_gc)
theorem verb_ok : ∀ o ∈ verbS, PyData.strOk o.2 = true := by decide +kernel
def sbD (b : Bool) : PyData := .tuple [.str "told", .bool b]
theorem sb_dp {K : PySem.W.Frag} {H : Hp} {p : Addr} {b : Bool} (h : H p = some (.tup [.str "told", .bl b])) : Dp K H (.ref p) (sbD b) := .tup (.inl (.inl h)) (.cons (.str _) (.cons (.bl _) .nil))
theorem sb_shape : ∀ b, SeqAt.shaped (sbD b) = true := by decide +kernel
theorem sb_eqv (b : Bool) : PyData.eqv (sbD b) (sbD b) = true := SeqAt.eqv_refl _ (SeqAt.canLay_of_shaped (sb_shape b))
section
variable {P : Program} {w : World} {K : PySem.W.Frag} {mg : Str → Option Value} {base : Heap} {A : Ads}
def spLaw (K : PySem.W.Frag) : Sp := fun vs H Q _ => ∃ (a : Addr) (ns : List Int), vs = [.ref a] ∧ SqL K H a (ns.map V.int) ∧ ns.length ≤ 63 ∧ ∀ H', Q (.bl true) H'
theorem ok_law {f : Addr} {fd : FuncData} (F : Fun K "law" "law" s_law f fd) (L : Lib P K mg A) (D : Dx K w mg "VERBS" verbS) : FnOk P w K mg base CX0 12 f fd ["script"] (spLaw K) := by
  have G_law_begin : FnOk P w K mg base CX0 1 L.law_begin.f L.law_begin.fd ["script", "k"] (spBegin K) := ok_law_begin L
  have G_law_store : FnOk P w K mg base CX0 6 L.law_store.f L.law_store.fd ["state"] (spStore P w K A) := ok_law_store L
  have G_law_value : FnOk P w K mg base CX0 5 L.law_value.f L.law_value.fd ["state", "store"] (spVal P w K A) := ok_law_value L
  have G_law_is_integer : FnOk P w K mg base CX0 1 L.law_is_integer.f L.law_is_integer.fd ["told"] (spIsInt A) := ok_law_is_integer L
  have G_law_kind : FnOk P w K mg base CX0 3 L.law_kind.f L.law_kind.fd ["store", "value"] (spLK P w A) := ok_law_kind L
  have G_law_told : FnOk P w K mg base CX0 9 L.law_told.f L.law_told.fd ["store", "operator", "x", "y"] (spTold P w A) := ok_law_told L D
  have G_law_compared : FnOk P w K mg base CX0 1 L.law_compared.f L.law_compared.fd ["operator", "x", "y"] spLC := ok_law_compared L
  have G_law_is : FnOk P w K mg base CX0 5 L.law_is.f L.law_is.fd ["store", "above", "x", "y", "told"] (spLIs P w K A) := ok_law_is L
  have G_law_negated : FnOk P w K mg base CX0 5 L.law_negated.f L.law_negated.fd ["store", "x"] (spNeg P w A) := ok_law_negated L
  have G_law_added : FnOk P w K mg base CX0 5 L.law_added.f L.law_added.fd ["store", "x", "y", "told", "many"] (spLA P w K A) := ok_law_added L
  refine F.ok sc_law (fun vs H Q E h => ?_) (fun cdv A' outer s H vs Q E hr h => ?_)
  · obtain ⟨a, ns, rfl, _⟩ := h
    rfl
  · obtain ⟨a, ns, rfl, ha, hns, q⟩ := h
    have nd := sc_law.nd
    refine ⟨_, (pss_cons (ps_set (i := 1) sc_law.nd rfl (.inl rfl) (pe_call G_law_begin (hr.mono (by omega)) (by rfl) L.law_begin.g L.law_begin.F.kp L.law_begin.b .nil pass0 (pa_cons (pv 0) (pa_cons pe_int pa_nil))))
      (pss_cons (ps_set (i := 2) sc_law.nd rfl (.inl rfl) (pe_call G_law_store (hr.mono (by omega)) (by rfl) L.law_store.g L.law_store.F.kp L.law_store.b .nil pass0 (pa_cons (pv 1) pa_nil)))
      (pss_cons (ps_if (pt_cmpR op_isN (pv 2) pe_non (nomark _))
        (pss_one (ps_ret pe_bl))
        pss_nil)
      (pss_cons (ps_set (i := 3) sc_law.nd rfl (.inl rfl) (pe_ix ix_list (pv 2) pe_int (fun _ _ => rfl)))
      (pss_cons (ps_for PassesOwn.never rfl (pi_range1 (by rfl) L.z_range (pa_cons (pe_callB (call_min2 rfl) (by rfl) L.z_min (by decide +kernel) (pa_cons pe_int (pa_cons (pe_callB (call_max2 rfl) (by rfl) L.z_max (by decide +kernel) (pa_cons pe_int (pa_cons (pe_callB call_len_seq (by rfl) L.z_len PySem.boot_len (pa_cons (pv 0) pa_nil)) pa_nil))) pa_nil))) pa_nil)) (pg_name (i := 4) sc_law.nd rfl (.inl rfl))
        (pss_cons (ps_set (i := 5) sc_law.nd rfl (.inl rfl) (pe_call G_law_value (hr.mono (by omega)) (by rfl) L.law_value.g L.law_value.F.kp L.law_value.b .nil pass0 (pa_cons (pv 1) (pa_cons (pv 3) pa_nil))))
      (pss_cons (ps_set (i := 6) sc_law.nd rfl (.inl rfl) (pe_call G_law_value (hr.mono (by omega)) (by rfl) L.law_value.g L.law_value.F.kp L.law_value.b .nil pass0 (pa_cons (pv 1) (pa_cons (pv 3) pa_nil))))
      (pss_cut (ps_if (PW.pt (pw_and (pt_val (pe_call G_law_is_integer (hr.mono (by omega)) (by rfl) L.law_is_integer.g L.law_is_integer.F.kp L.law_is_integer.b .nil pass0 (pa_cons (pv 5) pa_nil))) (pw_and1 (pt_val (pe_call G_law_is_integer (hr.mono (by omega)) (by rfl) L.law_is_integer.g L.law_is_integer.F.kp L.law_is_integer.b .nil pass0 (pa_cons (pv 6) pa_nil))))))
        (pss_one (ps_set (i := 6) sc_law.nd rfl (.inl rfl) pe_str))
        pss_nil)
      (pss_cons (ps_set (i := 7) sc_law.nd rfl (.inl rfl) (pe_lst (pa_cons (pe_tup (pa_cons pe_str (pa_cons pe_str pa_nil))) (pa_cons (pe_tup (pa_cons pe_str (pa_cons pe_str pa_nil))) (pa_cons (pe_tup (pa_cons pe_str (pa_cons pe_str pa_nil))) (pa_cons (pe_tup (pa_cons pe_str (pa_cons pe_str pa_nil))) pa_nil))))))
      (pss_cons (ps_set (i := 8) sc_law.nd rfl (.inl rfl) (pe_callB call_len_seq (by rfl) L.z_len PySem.boot_len (pa_cons (pe_fld (pv 3) rfl) pa_nil)))
      (pss_cons (ps_for PassesOwn.never rfl (pi_list (pv 7)) (pg_tup (by rfl) (pgs_cons (pg_name (i := 9) sc_law.nd rfl (.inl rfl)) (pgs_cons (pg_name (i := 10) sc_law.nd rfl (.inl rfl)) pgs_nil)))
        (pss_cons (ps_set (i := 11) sc_law.nd rfl (.inl rfl) (pe_op op_add_str (pe_op op_add_str (pe_op op_add_str (pe_op op_add_str (pe_op op_add_str pe_str (pv 10)) pe_str) (pe_call G_law_kind (hr.mono (by omega)) (by rfl) L.law_kind.g L.law_kind.F.kp L.law_kind.b .nil pass0 (pa_cons (pv 3) (pa_cons (pv 5) pa_nil)))) pe_str) (pe_call G_law_kind (hr.mono (by omega)) (by rfl) L.law_kind.g L.law_kind.F.kp L.law_kind.b .nil pass0 (pa_cons (pv 3) (pa_cons (pv 6) pa_nil)))))
      (pss_one (ps_if (pt_cmpR (op_neD (units64 hr)) (pe_call G_law_told (hr.mono (by omega)) (by rfl) L.law_told.g L.law_told.F.kp L.law_told.b .nil pass0 (pa_cons (pv 3) (pa_cons (pv 9) (pa_cons (pv 5) (pa_cons (pv 6) pa_nil))))) (pe_tup (pa_cons pe_str (pa_cons pe_str (pa_cons (pv 11) pa_nil)))) (nomark _))
        (pss_one (ps_ret pe_bl))
        pss_nil))))
      (pss_cons (ps_for PassesOwn.never rfl (pi_tup (pe_tup (pa_cons pe_str (pa_cons pe_str (pa_cons pe_str (pa_cons pe_str pa_nil)))))) (pg_name (i := 9) sc_law.nd rfl (.inl rfl))
        (pss_cons (ps_set (i := 11) sc_law.nd rfl (.inl rfl) (pe_tup (pa_cons pe_str (pa_cons pe_str (pa_cons (pe_op op_add_str (pe_op op_add_str (pe_op op_add_str pe_str (pe_call G_law_kind (hr.mono (by omega)) (by rfl) L.law_kind.g L.law_kind.F.kp L.law_kind.b .nil pass0 (pa_cons (pv 3) (pa_cons (pv 5) pa_nil)))) pe_str) (pe_call G_law_kind (hr.mono (by omega)) (by rfl) L.law_kind.g L.law_kind.F.kp L.law_kind.b .nil pass0 (pa_cons (pv 3) (pa_cons (pv 6) pa_nil)))) pa_nil)))))
      (pss_cut (ps_if (PW.pt (pw_and (pt_val (pe_callB call_isi (by rfl) L.z_isinstance (by decide +kernel) (pa_cons (pv 5) (pa_cons (pe_bltn (v := .ty "str") (by rfl) L.z_str (by decide +kernel) rfl) pa_nil)))) (pw_and1 (pt_val (pe_callB call_isi (by rfl) L.z_isinstance (by decide +kernel) (pa_cons (pv 6) (pa_cons (pe_bltn (v := .ty "str") (by rfl) L.z_str (by decide +kernel) rfl) pa_nil)))))))
        (pss_one (ps_set (i := 11) sc_law.nd rfl (.inl rfl) (pe_tup (pa_cons pe_str (pa_cons (pe_call G_law_compared (hr.mono (by omega)) (by rfl) L.law_compared.g L.law_compared.F.kp L.law_compared.b .nil pass0 (pa_cons (pv 9) (pa_cons (pv 5) (pa_cons (pv 6) pa_nil)))) pa_nil)))))
        pss_nil)
      (pss_one (ps_if (pt_cmpR (op_neD (units64 hr)) (pe_call G_law_told (hr.mono (by omega)) (by rfl) L.law_told.g L.law_told.F.kp L.law_told.b .nil pass0 (pa_cons (pv 3) (pa_cons (pv 9) (pa_cons (pv 5) (pa_cons (pv 6) pa_nil))))) (pv 11) (nomark _))
        (pss_one (ps_ret pe_bl))
        pss_nil)))))
      (pss_cut (ps_if (PW.pt (pw_or (pt_not (pt_val (pe_call G_law_is (hr.mono (by omega)) (by rfl) L.law_is.g L.law_is.F.kp L.law_is.b .nil pass0 (pa_cons (pv 3) (pa_cons (pe_ix ix_list (pv 2) pe_int (fun _ _ => rfl)) (pa_cons (pv 5) (pa_cons (pv 6) (pa_cons (pe_call G_law_told (hr.mono (by omega)) (by rfl) L.law_told.g L.law_told.F.kp L.law_told.b .nil pass0 (pa_cons (pv 3) (pa_cons pe_str (pa_cons (pv 5) (pa_cons (pv 6) pa_nil))))) pa_nil)))))))) (pw_or1 (pt_not (pt_val (pe_call G_law_negated (hr.mono (by omega)) (by rfl) L.law_negated.g L.law_negated.F.kp L.law_negated.b .nil pass0 (pa_cons (pv 3) (pa_cons (pv 5) pa_nil))))))))
        (pss_one (ps_ret pe_bl))
        pss_nil)
      (pss_one (ps_if (PW.pt (pw_or (pt_cmpR op_ne (pe_callB call_len_seq (by rfl) L.z_len PySem.boot_len (pa_cons (pe_fld (pv 3) rfl) pa_nil)) (pv 8) (nomark _)) (pw_or1 (pt_not (pt_val (pe_call G_law_added (hr.mono (by omega)) (by rfl) L.law_added.g L.law_added.F.kp L.law_added.b .nil pass0 (pa_cons (pv 3) (pa_cons (pv 5) (pa_cons (pv 6) (pa_cons (pe_call G_law_told (hr.mono (by omega)) (by rfl) L.law_told.g L.law_told.F.kp L.law_told.b .nil pass0 (pa_cons (pv 3) (pa_cons pe_str (pa_cons (pv 5) (pa_cons (pv 6) pa_nil))))) (pa_cons (pv 8) pa_nil)))))))))))
        (pss_one (ps_ret pe_bl))
        pss_nil)))))))))))
      (pss_one (ps_ret pe_bl))))))), ?_⟩
    have bd : ∀ n : Nat, n ≤ 100000 → n ≤ sizeLine := fun n h => Nat.le_trans h (by decide)
    refine ⟨_, rfl, a, ns, 0, rfl, ha, by omega, fun H1 p np s1 st1 => ?_⟩
    refine ⟨_, rfl, a, p, ns, rfl, st1, fun H2 mq b sa S pars us I2 g2 hp0 hp10 hl50 hmq omq hb2 hus2 ob2 => ?_⟩
    refine ⟨_, rfl, rfl, _, rfl, iteF ?_⟩
    refine ⟨_, rfl, mq, _, _, .ref sa.s, rfl, rfl, SqL.of hmq, atI_nat (j := 0) rfl, ?_⟩
    obtain ⟨N, hN, hN14⟩ : ∃ N : Nat, (if (if ((ns.map V.int).length : Int) > 4 then ((ns.map V.int).length : Int) else 4) < 14 then (if ((ns.map V.int).length : Int) > 4 then ((ns.map V.int).length : Int) else 4) else (14 : Int)) = (N : Int) ∧ N ≤ 14 := by
      refine ⟨min 14 (max 4 (ns.map V.int).length), ?_, Nat.min_le_left _ _⟩
      generalize (ns.map V.int).length = z
      split <;> split <;> omega
    obtain ⟨xq, kq, _, _, hs2⟩ := I2.st
    refine ⟨_, rfl, a, _, rfl, .inl hs2, _, _, rfl, _, _, rfl, (N : Int), by show [V.int _] = [V.int _]; rw [hN], by omega, by omega, for_range (n := N) (fun i σ H' => ∃ (y4 y5 y6 y7 y8 y9 y10 y11 : Option V) (sa' : Sa) (S' : St), σ = [some (.ref a), some (.ref p), some (.ref mq), some (.ref sa'.s), y4, y5, y6, y7, y8, y9, y10, y11] ∧ LI P w K A a p ns H1 H' sa' S' ∧ G18 S' pars ∧ S'.things.length ≤ 50 + i ∧ H' mq = some (.lst [.ref sa'.s, .ref b]) ∧ OL H1 p sa' mq ∧ H' b = some (.lst us) ∧ Hs A H' us pars ∧ OL H1 p sa' b)
      ⟨none, none, none, none, none, none, none, none, sa, S, rfl, I2, g2, hl50, hmq, omq, hb2, hus2, ob2⟩ ?_ ?_⟩
    · rintro i σ H3 hi ⟨y4, y5, y6, y7, y8, y9, y10, y11, sa, S, rfl, I3, g3, hl3, hmq, omq, hb3, hus3, ob3⟩
      rw [Int.zero_add]
      refine ⟨_, rfl, _, rfl, a, p, ns, H1, sa, S, rfl, I3, by have := g3.le; omega, by omega, fun H4 xv dx k4 I4 hx4 okx => ?_⟩
      refine ⟨_, rfl, _, rfl, a, p, ns, H1, sa, S, rfl, I4, by have := g3.le; omega, by omega, fun H5 yv dy k5 I5 hy5 oky => ?_⟩
      have hx5 := hx4.sv (I4.sv k5)
      let M : List (Option V) → Hp → Prop := fun σ' H' => ∃ (yv : V) (dy : Dv), σ' = [some (.ref a), some (.ref p), some (.ref mq), some (.ref sa.s), some (.int (i : Nat)), some xv, some yv, y7, y8, y9, y10, y11] ∧ H' = H5 ∧ Has A H5 yv dy ∧ okS S dy ∧ ¬ (kc S dx = 2 ∧ kc S dy = 2)
      have isi : ∀ d : Dv, isInt d = false → kc S d ≠ 2 := fun d hd h => by
        obtain ⟨i, rfl⟩ := kc2 h
        cases hd
      refine ⟨M, ?_, ?_⟩
      · refine ⟨_, rfl, xv, dx, rfl, hx5, _, rfl, ?_⟩
        refine ite_or (fun e => ?_) fun e => iteF ⟨yv, dy, rfl, rfl, hy5, oky, fun z => isi dx e z.1⟩
        refine ⟨_, rfl, yv, dy, rfl, hy5, _, rfl, ite_or (fun e2 => ?_) fun e2 => ⟨yv, dy, rfl, rfl, hy5, oky, fun z => isi dy e2 z.2⟩⟩
        exact ⟨_, .str "y", rfl, rfl, rfl, ⟨by decide +kernel, by decide +kernel⟩, fun z => absurd (show (3 : Nat) = 2 from z.2) (by decide)⟩
      rintro σ' H' ⟨yv, dy, rfl, rfl, hy5, oky, hii⟩
      refine ⟨by show 2 ≤ sizeLine; decide, fun T1 n1 => ⟨by show 2 ≤ sizeLine; decide, fun T2 n2 => ⟨by show 2 ≤ sizeLine; decide, fun T3 n3 => ⟨by show 2 ≤ sizeLine; decide, fun T4 n4 => ⟨by show 4 ≤ sizeLine; decide, fun VL nVL => ?_⟩⟩⟩⟩⟩
      have u1 := same_upd (o := .tup [.str "-", .str "subtract"]) n1
      have u2 := same_upd (o := .tup [.str "*", .str "multiply"]) n2
      have u3 := same_upd (o := .tup [.str "/", .str "divide"]) n3
      have u4 := same_upd (o := .tup [.str "mod", .str "divide"]) n4
      have u5 := same_upd (o := .lst [.ref T1, .ref T2, .ref T3, .ref T4]) nVL
      have s6 := (((u1.trans u2).trans u3).trans u4).trans u5
      have g1 := u5 _ _ (u4 _ _ (u3 _ _ (u2 _ _ (upd_same (H := H') (a := T1) (o := .tup [.str "-", .str "subtract"])))))
      have g2' := u5 _ _ (u4 _ _ (u3 _ _ (upd_same (H := upd H' T1 (.tup [.str "-", .str "subtract"])) (a := T2) (o := .tup [.str "*", .str "multiply"]))))
      have g3' := u5 _ _ (u4 _ _ (upd_same (H := upd (upd H' T1 (.tup [.str "-", .str "subtract"])) T2 (.tup [.str "*", .str "multiply"])) (a := T3) (o := .tup [.str "/", .str "divide"])))
      have g4' := u5 _ _ (upd_same (H := upd (upd (upd H' T1 (.tup [.str "-", .str "subtract"])) T2 (.tup [.str "*", .str "multiply"])) T3 (.tup [.str "/", .str "divide"])) (a := T4) (o := .tup [.str "mod", .str "divide"]))
      have hVL := upd_same (H := upd (upd (upd (upd H' T1 (.tup [.str "-", .str "subtract"])) T2 (.tup [.str "*", .str "multiply"])) T3 (.tup [.str "/", .str "divide"])) T4 (.tup [.str "mod", .str "divide"])) (a := VL) (o := .lst [.ref T1, .ref T2, .ref T3, .ref T4])
      generalize upd (upd (upd (upd (upd H' T1 (.tup [.str "-", .str "subtract"])) T2 (.tup [.str "*", .str "multiply"])) T3 (.tup [.str "/", .str "divide"])) T4 (.tup [.str "mod", .str "divide"])) VL (.lst [.ref T1, .ref T2, .ref T3, .ref T4]) = H6 at s6 g1 g2' g3' g4' hVL
      have vat : ∀ (j : Nat) v, ([.ref T1, .ref T2, .ref T3, .ref T4] : List V)[j]? = some v → ∃ T o, v = .ref T ∧ o ∈ verbS ∧ H6 T = some (.tup [.str o.1, .str o.2]) := fun j v e => by
        match j, e with
        | 0, e => cases e; exact ⟨T1, ("-", "subtract"), rfl, by decide +kernel, g1⟩
        | 1, e => cases e; exact ⟨T2, ("*", "multiply"), rfl, by decide +kernel, g2'⟩
        | 2, e => cases e; exact ⟨T3, ("/", "divide"), rfl, by decide +kernel, g3'⟩
        | 3, e => cases e; exact ⟨T4, ("mod", "divide"), rfl, by decide +kernel, g4'⟩
        | j + 4, e => cases e
      have I6 := I5.same s6
      have T6 : Two_ P w A H6 sa S xv yv dx dy := ⟨I6.sm, hx5.sv (Same.sv s6), hy5.sv (Same.sv s6), okx.v, oky.v⟩
      obtain ⟨k1, l1⟩ := kind_kn S dx
      obtain ⟨k2, l2⟩ := kind_kn S dy
      have kl1 : (kindD S dx).length ≤ 100 := by rw [k1]; exact kn_short _ l1
      have kl2 : (kindD S dy).length ≤ 100 := by rw [k2]; exact kn_short _ l2
      have ko1 : PyData.strOk (kindD S dx) = true := by rw [k1]; exact kn_ok _ l1
      have ko2 : PyData.strOk (kindD S dy) = true := by rw [k2]; exact kn_ok _ l2
      have hlx := I6.sm.lx
      obtain ⟨dsx, hs6⟩ := I6.sm.s_
      have c7 : (("cannot " : Str)).length = 7 := by decide +kernel
      have c1 : ((" " : Str)).length = 1 := by decide +kernel
      have c5 : ((" and " : Str)).length = 5 := by decide +kernel
      have c15 : (("cannot compare " : Str)).length = 15 := by decide +kernel
      refine ⟨_, rfl, sa.s, A.Store, dsx, _, _, rfl, hs6, L.c_Store.cl, L.n_Store_things, st_things _ _ _ _, sa.t, _, rfl, .inl (SqL.of I6.sm.t_), ?_⟩
      rw [List.length_map, hlx]
      refine ⟨_, rfl, VL, rfl, ⟨_, SqL.of hVL⟩, for_list (K := K) (a := VL) (xs := [.ref T1, .ref T2, .ref T3, .ref T4]) (fun j σ H' => ∃ (y9 y10 y11 : Option V), σ = [some (.ref a), some (.ref p), some (.ref mq), some (.ref sa.s), some (.int (i : Nat)), some xv, some yv, some (.ref VL), some (.int (S.things.length : Nat)), y9, y10, y11] ∧ Same H6 H') ⟨_, _, _, rfl, fun _ _ e => e⟩ (fun j σ H' _ h => by obtain ⟨_, _, _, _, s⟩ := h; exact SqL.of (s _ _ hVL)) ?_ ?_⟩
      · rintro j v σ H7 hv ⟨y9, y10, y11, rfl, s7⟩
        obtain ⟨T, o, rfl, ho, hT⟩ := vat j v hv
        have T7 := T6.same s7
        have vl := verb_len o ho
        refine ⟨T, _, rfl, SqT.of (s7 _ _ hT), rfl, _, _, rfl, _, _, rfl, rfl, ?_⟩
        refine ⟨_, rfl, _, _, rfl, rfl, bd _ (by rw [c7]; omega), _, _, rfl, rfl, bd _ (by rw [Str.length_append, c7, c1]; omega), _, rfl, _, rfl, sa, S, xv, dx, rfl, T7.sm, T7.h1, T7.o1, _, _, rfl, rfl, bd _ (by rw [Str.length_append, Str.length_append, c7, c1]; omega), _, _, rfl, rfl, bd _ (by rw [Str.length_append, Str.length_append, Str.length_append, c7, c1, c5]; omega), _, rfl, _, rfl, sa, S, yv, dy, rfl, T7.sm, T7.h2, T7.o2, _, _, rfl, rfl, bd _ (by rw [Str.length_append, Str.length_append, Str.length_append, Str.length_append, c7, c1, c5]; omega), ?_⟩
        refine ⟨_, rfl, _, rfl, _, rfl, _, rfl, sa, S, pars.length, o.1, xv, yv, dx, dy, rfl, T7, hii, .inl ⟨o.2, ho, fun H8 s8 => tE_err fun t H9 s9 nt => ?_⟩⟩
        have s10 := same_upd (o := .tup [.str "raised", .str "KindError", .str (msgO o.2 (kindD S dx) (kindD S dy))]) nt
        refine ⟨_, rfl, by show 3 ≤ sizeLine; decide, fun t2 nt2 => ?_⟩
        have s11 := same_upd (o := .tup [.str "raised", .str "KindError", .str (msgO o.2 (kindD S dx) (kindD S dy))]) nt2
        have okm : PyData.strOk (msgO o.2 (kindD S dx) (kindD S dy)) = true := ok_app (ok_app (ok_app (ok_app (ok_app (by decide +kernel) (verb_ok o ho)) (by decide +kernel)) ko1) (by decide +kernel)) ko2
        refine ⟨_, _, sss_dp (SqT.of (s11 _ _ upd_same)), sss_dp (SqT.of upd_same), sss_shape (by decide +kernel) (by decide +kernel) okm, sss_shape (by decide +kernel) (by decide +kernel) okm, _, rfl, ?_⟩
        refine ifF (by rw [eqv_sss]; unfold msgO; simp) ?_
        exact ⟨_, _, _, rfl, (((s7.trans s8).trans s9).trans s10).trans s11⟩
      rintro σ H7 ⟨y9, y10, y11, rfl, s7⟩
      refine ⟨by show 4 ≤ sizeLine; decide, fun OT nOT => ?_⟩
      have s8 := s7.trans (same_upd (o := .tup [.str "<", .str "<=", .str ">", .str ">="]) nOT)
      have hOT := upd_same (H := H7) (a := OT) (o := .tup [.str "<", .str "<=", .str ">", .str ">="])
      generalize upd H7 OT (.tup [.str "<", .str "<=", .str ">", .str ">="]) = H8 at s8 hOT
      have oat : ∀ (j : Nat) v, ([.str "<", .str "<=", .str ">", .str ">="] : List V)[j]? = some v → ∃ o : Str, v = .str o ∧ o ∈ ordsS := fun j v e => by
        match j, e with
        | 0, e => cases e; exact ⟨_, rfl, by decide +kernel⟩
        | 1, e => cases e; exact ⟨_, rfl, by decide +kernel⟩
        | 2, e => cases e; exact ⟨_, rfl, by decide +kernel⟩
        | 3, e => cases e; exact ⟨_, rfl, by decide +kernel⟩
        | j + 4, e => cases e
      refine ⟨OT, rfl, ⟨_, SqT.of hOT⟩, for_tup (K := K) (a := OT) (xs := [.str "<", .str "<=", .str ">", .str ">="]) (fun j σ H' => ∃ (y9 y10 y11 : Option V), σ = [some (.ref a), some (.ref p), some (.ref mq), some (.ref sa.s), some (.int (i : Nat)), some xv, some yv, some (.ref VL), some (.int (S.things.length : Nat)), y9, y10, y11] ∧ Same H6 H' ∧ Same H8 H') ⟨_, _, _, rfl, s8, fun _ _ e => e⟩ (fun j σ H' _ h => by obtain ⟨_, _, _, _, _, s⟩ := h; exact SqT.of (s _ _ hOT)) ?_ ?_⟩
      · rintro j v σ H9 hv ⟨y9, y10, y11, rfl, s9, s89⟩
        obtain ⟨o, rfl, ho⟩ := oat j v hv
        have T9 := T6.same s9
        have ecm : (("cannot compare " : Str) ++ kindD S dx ++ (" and " : Str) ++ kindD S dy) = msgO "compare" (kindD S dx) (kindD S dy) := by
          have : ("cannot " : Str) ++ ("compare" : Str) ++ (" " : Str) = ("cannot compare " : Str) := by decide +kernel
          unfold msgO
          rw [this]
        have okm : PyData.strOk (msgO "compare" (kindD S dx) (kindD S dy)) = true := by
          rw [← ecm]
          exact ok_app (ok_app (ok_app (by decide +kernel) ko1) (by decide +kernel)) ko2
        refine ⟨_, rfl, _, rfl, sa, S, xv, dx, rfl, T9.sm, T9.h1, T9.o1, _, _, rfl, rfl, bd _ (by rw [c15]; omega), _, _, rfl, rfl, bd _ (by rw [Str.length_append, c15, c5]; omega), _, rfl, _, rfl, sa, S, yv, dy, rfl, T9.sm, T9.h2, T9.o2, _, _, rfl, rfl, bd _ (by rw [Str.length_append, Str.length_append, c15, c5]; omega), by show 3 ≤ sizeLine; decide, fun t1 nt1 => ?_⟩
        have s10 := same_upd (o := .tup [.str "raised", .str "KindError", .str (("cannot compare " : Str) ++ kindD S dx ++ (" and " : Str) ++ kindD S dy)]) nt1
        have ht1 := upd_same (H := H9) (a := t1) (o := .tup [.str "raised", .str "KindError", .str (("cannot compare " : Str) ++ kindD S dx ++ (" and " : Str) ++ kindD S dy)])
        generalize upd H9 t1 (.tup [.str "raised", .str "KindError", .str (("cannot compare " : Str) ++ kindD S dx ++ (" and " : Str) ++ kindD S dy)]) = H10 at s10 ht1
        rw [ecm] at ht1
        have T10 := T9.same s10
        let M2 : List (Option V) → Hp → Prop := fun σ' H' => ∃ (t : Addr), σ' = [some (.ref a), some (.ref p), some (.ref mq), some (.ref sa.s), some (.int (i : Nat)), some xv, some yv, some (.ref VL), some (.int (S.things.length : Nat)), some (.str o), y10, some (.ref t)] ∧ Same H10 H' ∧ ((¬ (kc S dx = 3 ∧ kc S dy = 3) ∧ H' t = some (.tup [.str "raised", .str "KindError", .str (msgO "compare" (kindD S dx) (kindD S dy))])) ∨ ∃ x y, dx = .str x ∧ dy = .str y ∧ H' t = some (.tup [.str "told", .bl (cmpS o x y)]))
        have e3 : ∀ d : Dv, dS d = true → ∃ x, d = .str x := fun d hd => by
          cases d with
          | str x => exact ⟨x, rfl⟩
          | _ => cases hd
        refine ⟨M2, ?_, ?_⟩
        · refine ⟨_, rfl, xv, .ty "str", _, .type "str", _, rfl, .ty _, has_ty L T10.h1, kit_str L dx, _, rfl, ite_or (fun e => ?_) fun e => ?_⟩
          · refine ⟨_, rfl, yv, .ty "str", _, .type "str", _, rfl, .ty _, has_ty L T10.h2, kit_str L dy, _, rfl, ite_or (fun e2 => ?_) fun e2 => ?_⟩
            · obtain ⟨x, rfl⟩ := e3 dx e
              obtain ⟨y, rfl⟩ := e3 dy e2
              cases T10.h1
              cases T10.h2
              refine ⟨_, rfl, _, rfl, _, rfl, o, x, y, rfl, ho, by show 2 ≤ sizeLine; decide, fun t2 nt2 => ?_⟩
              exact ⟨t2, rfl, same_upd nt2, .inr ⟨x, y, rfl, rfl, upd_same⟩⟩
            · exact ⟨t1, rfl, fun _ _ e => e, .inl ⟨fun z => (by obtain ⟨y, rfl⟩ := kc3 z.2; cases e2), ht1⟩⟩
          · exact iteF ⟨t1, rfl, fun _ _ e => e, .inl ⟨fun z => (by obtain ⟨x, rfl⟩ := kc3 z.1; cases e), ht1⟩⟩
        rintro σ' H11 ⟨t, rfl, s11, hdue⟩
        have T11 := T10.same s11
        have s9' := (s9.trans s10).trans s11
        have s89' := (s89.trans s10).trans s11
        refine ⟨_, rfl, _, rfl, _, rfl, _, rfl, sa, S, pars.length, o, xv, yv, dx, dy, rfl, T11, hii, .inr (.inl ⟨ho, fun x y e1 e2 H12 s12 t2 nt2 => ?_, fun n3 H12 s12 => tE_err fun t2 H13 s13 nt2 => ?_⟩)⟩
        · have s13 := same_upd (o := .tup [.str "told", .bl (cmpS o x y)]) nt2
          rcases hdue with ⟨n3, _⟩ | ⟨x', y', e1', e2', hd⟩
          · subst e1 e2
            exact absurd ⟨rfl, rfl⟩ n3
          · subst e1 e2
            cases e1'
            cases e2'
            refine ⟨_, rfl, _, _, sb_dp upd_same, sb_dp (s13 _ _ (s12 _ _ hd)), sb_shape _, sb_shape _, _, rfl, ?_⟩
            rw [sb_eqv]
            exact iteF ⟨_, _, _, rfl, (s9'.trans s12).trans s13, (s89'.trans s12).trans s13⟩
        · have s14 := same_upd (o := .tup [.str "raised", .str "KindError", .str (msgO "compare" (kindD S dx) (kindD S dy))]) nt2
          rcases hdue with ⟨_, hd⟩ | ⟨x', y', e1', e2', hd⟩
          · refine ⟨_, rfl, _, _, sss_dp (SqT.of upd_same), sss_dp (SqT.of (s14 _ _ (s13 _ _ (s12 _ _ hd)))), sss_shape (by decide +kernel) (by decide +kernel) okm, sss_shape (by decide +kernel) (by decide +kernel) okm, _, rfl, ?_⟩
            rw [eqv_sss, decide_eq_true rfl, decide_eq_true rfl, decide_eq_true rfl]
            exact iteF ⟨_, _, _, rfl, ((s9'.trans s12).trans s13).trans s14, ((s89'.trans s12).trans s13).trans s14⟩
          · subst e1' e2'
            exact absurd ⟨rfl, rfl⟩ n3
      · rintro σ H9 ⟨y9, y10, y11, rfl, s9, s89⟩
        have T9 := T6.same s9
        have s09 := s6.trans s9
        obtain ⟨xp4, hp4⟩ := I4.hp
        have hmq9 := s09 _ _ (k5 _ _ (k4 _ _ hmq omq.np) omq.np)
        have hb9 := s09 _ _ (k5 _ _ (k4 _ _ hb3 ob3.np) ob3.np)
        have hus9 : Hs A H9 us pars := hus3.imp fun _ _ h => ((h.sv (I3.sv k4)).sv (I4.sv k5)).sv (Same.sv s09)
        have I9 := I5.same s09
        let M3 : List (Option V) → Hp → Prop := fun σ' H' => σ' = [some (.ref a), some (.ref p), some (.ref mq), some (.ref sa.s), some (.int (i : Nat)), some xv, some yv, some (.ref VL), some (.int (S.things.length : Nat)), y9, y10, y11] ∧ Same H9 H'
        refine ⟨M3, ?_, ?_⟩
        · refine ⟨_, rfl, _, rfl, mq, _, _, .ref b, rfl, rfl, SqL.of hmq9, atI_nat (j := 1) rfl, _, rfl, _, rfl, _, rfl, _, rfl, _, rfl, sa, S, pars.length, "is", xv, yv, dx, dy, rfl, T9, hii, .inr (.inr (.inl ⟨rfl, g3.kins, g3.owns, fun n en h8 H10 s10 t nt => ?_, fun h8 H10 s10 => tE_err fun t H11 s11 nt => ?_⟩))⟩
          · have s12 := s10.trans (same_upd (o := .tup [.str "told", .bl (isI S dx n)]) nt)
            have ht := upd_same (H := H10) (a := t) (o := .tup [.str "told", .bl (isI S dx n)])
            generalize upd H10 t (.tup [.str "told", .bl (isI S dx n)]) = H12 at s12 ht
            have T12 := T9.same s12
            refine ⟨sa, S, pars, b, t, us, xv, yv, dx, dy, rfl, T12, g3, by omega, s12 _ _ hb9, hus9.imp fun _ _ h => h.sv (Same.sv s12), fun h => absurd h8 h, fun n' en' _ => ?_, fun H13 s13 => ⟨_, rfl, iteF ?_⟩⟩
            · subst en
              cases en'
              exact SqT.of ht
            have T13 := T12.same s13
            exact ⟨_, rfl, _, rfl, sa, S, xv, dx, rfl, T13.sm, T13.h1, T13.o1, fun H14 s14 => ⟨_, rfl, iteF ⟨rfl, (s12.trans s13).trans s14⟩⟩⟩
          · have s12 := (s10.trans s11).trans (same_upd (o := .tup [.str "raised", .str "KindError", .str "is needs a class"]) nt)
            have ht := upd_same (H := H11) (a := t) (o := .tup [.str "raised", .str "KindError", .str "is needs a class"])
            generalize upd H11 t (.tup [.str "raised", .str "KindError", .str "is needs a class"]) = H12 at s12 ht
            have T12 := T9.same s12
            refine ⟨sa, S, pars, b, t, us, xv, yv, dx, dy, rfl, T12, g3, by omega, s12 _ _ hb9, hus9.imp fun _ _ h => h.sv (Same.sv s12), fun _ => SqT.of ht, fun n' en' h => absurd h h8, fun H13 s13 => ⟨_, rfl, iteF ?_⟩⟩
            have T13 := T12.same s13
            exact ⟨_, rfl, _, rfl, sa, S, xv, dx, rfl, T13.sm, T13.h1, T13.o1, fun H14 s14 => ⟨_, rfl, iteF ⟨rfl, (s12.trans s13).trans s14⟩⟩⟩
        rintro σ' H10 ⟨rfl, s10⟩
        have T10 := T9.same s10
        have I10 := I9.same s10
        have hmq10 := s10 _ _ hmq9
        have hb10 := s10 _ _ hb9
        have hus10 : Hs A H10 us pars := hus9.imp fun _ _ h => h.sv (Same.sv s10)
        have hlx10 := I10.sm.lx
        obtain ⟨dsx10, hs10⟩ := I10.sm.s_
        have e0 : (!decide (V.int (((sa.X.map V.ref).length : Nat) : Int) = V.int ((S.things.length : Nat) : Int))) = false := by
          rw [List.length_map, hlx10, decide_eq_true rfl]
          rfl
        refine ⟨_, rfl, sa.s, A.Store, dsx10, _, _, rfl, hs10, L.c_Store.cl, L.n_Store_things, st_things _ _ _ _, sa.t, _, rfl, .inl (SqL.of I10.sm.t_), _, rfl, rfl, _, rfl, ifF e0 ?_⟩
        have keepS : ∀ H', Same H10 H' → ∃ (y4 y5 y6 y7 y8 y9' y10' y11' : Option V) (sa' : Sa) (S' : St), ([some (.ref a), some (.ref p), some (.ref mq), some (.ref sa.s), some (.int (i : Nat)), some xv, some yv, some (.ref VL), some (.int (S.things.length : Nat)), y9, y10, y11] : List (Option V)) = [some (.ref a), some (.ref p), some (.ref mq), some (.ref sa'.s), y4, y5, y6, y7, y8, y9', y10', y11'] ∧ LI P w K A a p ns H1 H' sa' S' ∧ G18 S' pars ∧ S'.things.length ≤ 50 + (i + 1) ∧ H' mq = some (.lst [.ref sa'.s, .ref b]) ∧ OL H1 p sa' mq ∧ H' b = some (.lst us) ∧ Hs A H' us pars ∧ OL H1 p sa' b := fun H' s => ⟨_, _, _, _, _, _, _, _, sa, S, rfl, I10.same s, g3, by omega, s _ _ hmq10, omq, s _ _ hb10, hus10.imp fun _ _ h => h.sv (Same.sv s), ob3⟩
        have isP : ∀ (n : Nat) ds, S.things[n]? = some (.parts ds) → ds.length ≤ 1000 ∧ ∀ d ∈ ds, ∃ i, d = Dv.int i := fun n ds e => by
          by_cases hn : n < pars.length
          · obtain ⟨⟨nm, ms, e1⟩, _⟩ := g3.kin n _ (List.getElem?_eq_getElem hn)
            rw [e] at e1
            cases e1
          · exact g3.oth n _ (by omega) e
        refine ⟨_, rfl, _, rfl, _, rfl, _, rfl, _, rfl, _, rfl, sa, S, pars.length, "+", xv, yv, dx, dy, rfl, T10, hii, .inr (.inr (.inr ⟨rfl, by omega, fun x y e1 e2 => ?_, fun n1 n2 es fs e1 e2 hn1 hn2 => ?_, fun n3 n5 H11 s11 => tE_err fun t H12 s12 nt => ?_⟩))⟩
        · subst e1 e2
          have okx : x.length ≤ 999 ∧ PyData.strOk x = true := okx
          have oky : y.length ≤ 999 ∧ PyData.strOk y = true := oky
          refine ⟨by omega, by omega, fun le H11 s11 t nt => ?_, fun lt H11 s11 => tE_err fun t H12 s12 nt => ?_⟩
          · have s13 := s11.trans (same_upd (o := .tup [.str "told", .str (x ++ y)]) nt)
            exact ⟨_, rfl, sa, S, S, xv, yv, _, _, t, rfl, T10.same s13, .inl ⟨x, y, rfl, rfl, by omega, by omega, okx.2, oky.2, rfl, .inr ⟨le, SqT.of upd_same⟩⟩, fun H14 s14 => ⟨_, rfl, iteF (keepS _ (s13.trans s14))⟩⟩
          · have s13 := (s11.trans s12).trans (same_upd (o := .tup [.str "raised", .str "SizeError", .str "too large"]) nt)
            exact ⟨_, rfl, sa, S, S, xv, yv, _, _, t, rfl, T10.same s13, .inl ⟨x, y, rfl, rfl, by omega, by omega, okx.2, oky.2, rfl, .inl ⟨lt, SqT.of upd_same⟩⟩, fun H14 s14 => ⟨_, rfl, iteF (keepS _ (s13.trans s14))⟩⟩
        · subst e1 e2
          obtain ⟨he1, he2⟩ := isP n1 es hn1
          obtain ⟨hf1, hf2⟩ := isP n2 fs hn2
          refine ⟨he1, hf1, fun le H11 r a' ev sm hr t nt => ?_, fun lt H11 s11 => tE_err fun t H12 s12 nt => ?_⟩
          · rw [List.length_append] at le
            have I11 := I10.ev ev sm
            have vk := Fr.vk L I10.sm ev.fr
            have s13 := same_upd (o := .tup [.str "told", .ref r]) nt
            have len' : (S.things ++ [Th.parts (es ++ fs)]).length = S.things.length + 1 := by rw [List.length_append]; rfl
            have T13 : Two_ P w A (upd H11 t (.tup [.str "told", .ref r])) a' { S with things := S.things ++ [.parts (es ++ fs)] } xv yv (.obj n1) (.obj n2) := ⟨sm.same s13, (vk.v _ _ T10.h1).sv (Same.sv s13), (vk.v _ _ T10.h2).sv (Same.sv s13), by show n1 < (S.things ++ [_]).length; have := T10.o1; have : n1 < S.things.length := this; omega, by show n2 < (S.things ++ [_]).length; have := T10.o2; have : n2 < S.things.length := this; omega⟩
            refine ⟨_, rfl, a', S, _, xv, yv, _, _, t, by rw [ev.s]; rfl, T13, .inr (.inl ⟨n1, n2, es, fs, rfl, rfl, ?_, ?_, he1, hf1, he2, hf2, .inr ⟨le, len', ?_, r, SqT.of upd_same, hr.sv (Same.sv s13)⟩⟩), fun H14 s14 => ⟨_, rfl, iteF ?_⟩⟩
            · show (S.things ++ [_])[n1]? = _
              rw [List.getElem?_append_left (List.getElem?_eq_some_iff.mp hn1).1]
              exact hn1
            · show (S.things ++ [_])[n2]? = _
              rw [List.getElem?_append_left (List.getElem?_eq_some_iff.mp hn2).1]
              exact hn2
            · show (S.things ++ [_])[S.things.length]? = _
              rw [List.getElem?_append_right (Nat.le_refl _), Nat.sub_self]
              rfl
            · have s34 := s13.trans s14
              have gn : G18 { S with things := S.things ++ [.parts (es ++ fs)] } pars := g3.snoc (show othT _ (.parts (es ++ fs)) from ⟨by rw [List.length_append]; omega, fun d hd => (List.mem_append.mp hd).elim (he2 d) (hf2 d)⟩)
              exact ⟨_, _, _, _, _, _, _, _, a', _, by rw [ev.s], I11.same s34, gn, by show (S.things ++ [_]).length ≤ _; omega, by rw [ev.s]; exact s34 _ _ (ev.fr _ _ hmq10 omq.no), omq.ev ev hmq10, s34 _ _ (ev.fr _ _ hb10 ob3.no), (hus10.imp vk.v).imp fun _ _ h => h.sv (Same.sv s34), ob3.ev ev hb10⟩
          · rw [List.length_append] at lt
            have s13 := (s11.trans s12).trans (same_upd (o := .tup [.str "raised", .str "SizeError", .str "too large"]) nt)
            exact ⟨_, rfl, sa, S, S, xv, yv, _, _, t, rfl, T10.same s13, .inr (.inl ⟨n1, n2, es, fs, rfl, rfl, hn1, hn2, he1, hf1, he2, hf2, .inl ⟨lt, rfl, SqT.of upd_same⟩⟩), fun H14 s14 => ⟨_, rfl, iteF (keepS _ (s13.trans s14))⟩⟩
        · have s13 := (s11.trans s12).trans (same_upd (o := .tup [.str "raised", .str "KindError", .str (msgO "add" (kindD S dx) (kindD S dy))]) nt)
          exact ⟨_, rfl, sa, S, S, xv, yv, dx, dy, t, rfl, T10.same s13, .inr (.inr ⟨n3, n5, rfl, SqT.of upd_same⟩), fun H14 s14 => ⟨_, rfl, iteF (keepS _ (s13.trans s14))⟩⟩
    · rintro σ H3 _
      exact q _
end
end My
namespace My
open PySem L2 SX XT XS XE
set_option maxHeartbeats 0 in
theorem all_mk {l : PySem.W.OpenLaw} {w : World} {K : PySem.W.Frag} {h : Heap} {mg : Str → Option Value} {fa cRef cBuiltin cParts cTable cInstance cKin cClosure cStore cLivequillError cScriptError fScriptError cdaScriptError ccScriptError a_tagged a_kind_of a_kind_of_thing a_is_true a_equal a_is_key a_is_below a_check_size a_is_bounded a_checked_integer a_unary a_binary a_is_instance a_kinds_of a_refuse_operands a_add a_compare a_calculate a_check_key a_put_entry a_make_list a_make_map a_make_class a_law_cell a_law_is_integer a_law_begin a_law_draw a_law_pick a_law_text a_law_store a_law_value a_law_kind a_law_told a_law_added a_law_compared a_law_is a_law_negated a_law a_Ref_init a_Ref_eq a_Builtin_init a_Builtin_eq a_Parts_init a_Table_init a_Table_has a_Table_put a_Table_pairs a_Table_many p_Table_many a_Instance_init a_Kin_init a_Closure_init a_Store_init a_Store_make a_Store_at aORDERS aVERBS : Addr} (X : K.In h) (G : h.Ns mainGlobals mg) (hfa : mg "law" = some (.ref fa))
    {nmScriptError qScriptError flScriptError : Str}
    {NScriptError : Addr}
    {bsScriptError subScriptError rsf_Table_many : List Value}
    {snScriptError : List Str}
    {abScriptError : Bool}
    {colScriptError : Option Bool}
    {ddScriptError odScriptError anScriptError cddScriptError cldScriptError odf_tagged anf_tagged odf_kind_of anf_kind_of odf_kind_of_thing anf_kind_of_thing odf_is_true anf_is_true odf_equal anf_equal odf_is_key anf_is_key odf_is_below anf_is_below odf_check_size anf_check_size odf_is_bounded anf_is_bounded odf_checked_integer anf_checked_integer odf_unary anf_unary odf_binary anf_binary odf_is_instance anf_is_instance odf_kinds_of anf_kinds_of odf_refuse_operands anf_refuse_operands odf_add anf_add odf_compare anf_compare odf_calculate anf_calculate odf_check_key anf_check_key odf_put_entry anf_put_entry odf_make_list anf_make_list odf_make_map anf_make_map odf_make_class anf_make_class odf_law_cell anf_law_cell odf_law_is_integer anf_law_is_integer odf_law_begin anf_law_begin odf_law_draw anf_law_draw odf_law_pick anf_law_pick odf_law_text anf_law_text odf_law_store anf_law_store odf_law_value anf_law_value odf_law_kind anf_law_kind odf_law_told anf_law_told odf_law_added anf_law_added odf_law_compared anf_law_compared odf_law_is anf_law_is odf_law_negated anf_law_negated odlaw anlaw odf_Ref_init anf_Ref_init odf_Ref_eq anf_Ref_eq odf_Builtin_init anf_Builtin_init odf_Builtin_eq anf_Builtin_eq odf_Parts_init anf_Parts_init odf_Table_init anf_Table_init odf_Table_has anf_Table_has odf_Table_put anf_Table_put odf_Table_pairs anf_Table_pairs odf_Table_many anf_Table_many odf_Instance_init anf_Instance_init odf_Kin_init anf_Kin_init odf_Closure_init anf_Closure_init odf_Store_init anf_Store_init odf_Store_make anf_Store_make odf_Store_at anf_Store_at ddoORDERS : Option Addr}
    {m0ScriptError m1ScriptError m2ScriptError m3ScriptError m5ScriptError : Option Value}
    {slScriptError ccsScriptError cslScriptError slf_tagged slf_kind_of slf_kind_of_thing slf_is_true slf_equal slf_is_key slf_is_below slf_check_size slf_is_bounded slf_checked_integer slf_unary slf_binary slf_is_instance slf_kinds_of slf_refuse_operands slf_add slf_compare slf_calculate slf_check_key slf_put_entry slf_make_list slf_make_map slf_make_class slf_law_cell slf_law_is_integer slf_law_begin slf_law_draw slf_law_pick slf_law_text slf_law_store slf_law_value slf_law_kind slf_law_told slf_law_added slf_law_compared slf_law_is slf_law_negated sllaw slf_Ref_init slf_Ref_eq slf_Builtin_init slf_Builtin_eq slf_Parts_init slf_Table_init slf_Table_has slf_Table_put slf_Table_pairs slf_Table_many slf_Instance_init slf_Kin_init slf_Closure_init slf_Store_init slf_Store_make slf_Store_at osORDERS : Array (Option Value)}
    {ocScriptError kVScriptError dcScriptError pmScriptError ctScriptError cclScriptError cl_ScriptError ocf_tagged kVf_tagged dcf_tagged pmf_tagged cdf_tagged ctf_tagged ocf_kind_of kVf_kind_of dcf_kind_of pmf_kind_of cdf_kind_of ctf_kind_of ocf_kind_of_thing kVf_kind_of_thing dcf_kind_of_thing pmf_kind_of_thing cdf_kind_of_thing ctf_kind_of_thing ocf_is_true kVf_is_true dcf_is_true pmf_is_true cdf_is_true ctf_is_true ocf_equal kVf_equal dcf_equal pmf_equal cdf_equal ctf_equal ocf_is_key kVf_is_key dcf_is_key pmf_is_key cdf_is_key ctf_is_key ocf_is_below kVf_is_below dcf_is_below pmf_is_below cdf_is_below ctf_is_below ocf_check_size kVf_check_size dcf_check_size pmf_check_size cdf_check_size ctf_check_size ocf_is_bounded kVf_is_bounded dcf_is_bounded pmf_is_bounded cdf_is_bounded ctf_is_bounded ocf_checked_integer kVf_checked_integer dcf_checked_integer pmf_checked_integer cdf_checked_integer ctf_checked_integer ocf_unary kVf_unary dcf_unary pmf_unary cdf_unary ctf_unary ocf_binary kVf_binary dcf_binary pmf_binary cdf_binary ctf_binary ocf_is_instance kVf_is_instance dcf_is_instance pmf_is_instance cdf_is_instance ctf_is_instance ocf_kinds_of kVf_kinds_of dcf_kinds_of pmf_kinds_of cdf_kinds_of ctf_kinds_of ocf_refuse_operands kVf_refuse_operands dcf_refuse_operands pmf_refuse_operands cdf_refuse_operands ctf_refuse_operands ocf_add kVf_add dcf_add pmf_add cdf_add ctf_add ocf_compare kVf_compare dcf_compare pmf_compare cdf_compare ctf_compare ocf_calculate kVf_calculate dcf_calculate pmf_calculate cdf_calculate ctf_calculate ocf_check_key kVf_check_key dcf_check_key pmf_check_key cdf_check_key ctf_check_key ocf_put_entry kVf_put_entry dcf_put_entry pmf_put_entry cdf_put_entry ctf_put_entry ocf_make_list kVf_make_list dcf_make_list pmf_make_list cdf_make_list ctf_make_list ocf_make_map kVf_make_map dcf_make_map pmf_make_map cdf_make_map ctf_make_map ocf_make_class kVf_make_class dcf_make_class pmf_make_class cdf_make_class ctf_make_class ocf_law_cell kVf_law_cell dcf_law_cell pmf_law_cell cdf_law_cell ctf_law_cell ocf_law_is_integer kVf_law_is_integer dcf_law_is_integer pmf_law_is_integer cdf_law_is_integer ctf_law_is_integer ocf_law_begin kVf_law_begin dcf_law_begin pmf_law_begin cdf_law_begin ctf_law_begin ocf_law_draw kVf_law_draw dcf_law_draw pmf_law_draw cdf_law_draw ctf_law_draw ocf_law_pick kVf_law_pick dcf_law_pick pmf_law_pick cdf_law_pick ctf_law_pick ocf_law_text kVf_law_text dcf_law_text pmf_law_text cdf_law_text ctf_law_text ocf_law_store kVf_law_store dcf_law_store pmf_law_store cdf_law_store ctf_law_store ocf_law_value kVf_law_value dcf_law_value pmf_law_value cdf_law_value ctf_law_value ocf_law_kind kVf_law_kind dcf_law_kind pmf_law_kind cdf_law_kind ctf_law_kind ocf_law_told kVf_law_told dcf_law_told pmf_law_told cdf_law_told ctf_law_told ocf_law_added kVf_law_added dcf_law_added pmf_law_added cdf_law_added ctf_law_added ocf_law_compared kVf_law_compared dcf_law_compared pmf_law_compared cdf_law_compared ctf_law_compared ocf_law_is kVf_law_is dcf_law_is pmf_law_is cdf_law_is ctf_law_is ocf_law_negated kVf_law_negated dcf_law_negated pmf_law_negated cdf_law_negated ctf_law_negated oclaw kVlaw dclaw pmlaw cdlaw ctlaw ocf_Ref_init kVf_Ref_init dcf_Ref_init pmf_Ref_init cdf_Ref_init ctf_Ref_init ocf_Ref_eq kVf_Ref_eq dcf_Ref_eq pmf_Ref_eq cdf_Ref_eq ctf_Ref_eq ocf_Builtin_init kVf_Builtin_init dcf_Builtin_init pmf_Builtin_init cdf_Builtin_init ctf_Builtin_init ocf_Builtin_eq kVf_Builtin_eq dcf_Builtin_eq pmf_Builtin_eq cdf_Builtin_eq ctf_Builtin_eq ocf_Parts_init kVf_Parts_init dcf_Parts_init pmf_Parts_init cdf_Parts_init ctf_Parts_init ocf_Table_init kVf_Table_init dcf_Table_init pmf_Table_init cdf_Table_init ctf_Table_init ocf_Table_has kVf_Table_has dcf_Table_has pmf_Table_has cdf_Table_has ctf_Table_has ocf_Table_put kVf_Table_put dcf_Table_put pmf_Table_put cdf_Table_put ctf_Table_put ocf_Table_pairs kVf_Table_pairs dcf_Table_pairs pmf_Table_pairs cdf_Table_pairs ctf_Table_pairs ocf_Table_many kVf_Table_many dcf_Table_many pmf_Table_many cdf_Table_many ctf_Table_many ocf_Instance_init kVf_Instance_init dcf_Instance_init pmf_Instance_init cdf_Instance_init ctf_Instance_init ocf_Kin_init kVf_Kin_init dcf_Kin_init pmf_Kin_init cdf_Kin_init ctf_Kin_init ocf_Closure_init kVf_Closure_init dcf_Closure_init pmf_Closure_init cdf_Closure_init ctf_Closure_init ocf_Store_init kVf_Store_init dcf_Store_init pmf_Store_init cdf_Store_init ctf_Store_init ocf_Store_make kVf_Store_make dcf_Store_make pmf_Store_make cdf_Store_make ctf_Store_make ocf_Store_at kVf_Store_at dcf_Store_at pmf_Store_at cdf_Store_at ctf_Store_at : Value}
    {cvsScriptError itsORDERS : Array Value}
    {tfScriptError tkMOST_HELD tkDOUBTFUL_BITS tkVERBS0 tkVERBS1 tkVERBS2 tkVERBS3 : Tok}
    {nnORDERS nnVERBS : Nat}
    {esVERBS : Array DictEntry}
    (uRef : PySem.W.nsIn K mainGlobals "Ref" = some (some (.ref cRef)))
    (mkRef : PySem.W.makesIn K cRef = true)
    (kcRef : PySem.W.keepIn K (.ref cRef) = true)
    (pgRef : PySem.W.plainGet K cRef Str.empty = true)
    (hdRef : PySem.W.hasDictIn K cRef = true)
    (poRef : PySem.W.plainOver K cRef = true)
    (saRef : PySem.W.findIn K (.ref cRef) "__setattr__" = some (some (.builtin "object.__setattr__")))
    (nRef_number : PySem.W.findIn K (.ref cRef) "number" = some none)
    (hnTy : PySem.W.specialIn K (.builtin "object.__class__") "__get__" = some (some (.builtin "getset_descriptor.__get__")))
    (htTy : PySem.W.takesIn K (.builtin "object.__class__") = some true)
    (haRef : PySem.W.findIn K (.ref cRef) "__class__" = some (some (.builtin "object.__class__")))
    (hmRef : PySem.W.mroIn K cRef (.type "object") = some true)
    (uBuiltin : PySem.W.nsIn K mainGlobals "Builtin" = some (some (.ref cBuiltin)))
    (mkBuiltin : PySem.W.makesIn K cBuiltin = true)
    (kcBuiltin : PySem.W.keepIn K (.ref cBuiltin) = true)
    (pgBuiltin : PySem.W.plainGet K cBuiltin Str.empty = true)
    (hdBuiltin : PySem.W.hasDictIn K cBuiltin = true)
    (poBuiltin : PySem.W.plainOver K cBuiltin = true)
    (saBuiltin : PySem.W.findIn K (.ref cBuiltin) "__setattr__" = some (some (.builtin "object.__setattr__")))
    (nBuiltin_name : PySem.W.findIn K (.ref cBuiltin) "name" = some none)
    (haBuiltin : PySem.W.findIn K (.ref cBuiltin) "__class__" = some (some (.builtin "object.__class__")))
    (hmBuiltin : PySem.W.mroIn K cBuiltin (.type "object") = some true)
    (uParts : PySem.W.nsIn K mainGlobals "Parts" = some (some (.ref cParts)))
    (mkParts : PySem.W.makesIn K cParts = true)
    (kcParts : PySem.W.keepIn K (.ref cParts) = true)
    (pgParts : PySem.W.plainGet K cParts Str.empty = true)
    (hdParts : PySem.W.hasDictIn K cParts = true)
    (poParts : PySem.W.plainOver K cParts = true)
    (saParts : PySem.W.findIn K (.ref cParts) "__setattr__" = some (some (.builtin "object.__setattr__")))
    (nParts_held : PySem.W.findIn K (.ref cParts) "held" = some none)
    (haParts : PySem.W.findIn K (.ref cParts) "__class__" = some (some (.builtin "object.__class__")))
    (hmParts : PySem.W.mroIn K cParts (.type "object") = some true)
    (uTable : PySem.W.nsIn K mainGlobals "Table" = some (some (.ref cTable)))
    (mkTable : PySem.W.makesIn K cTable = true)
    (kcTable : PySem.W.keepIn K (.ref cTable) = true)
    (pgTable : PySem.W.plainGet K cTable Str.empty = true)
    (hdTable : PySem.W.hasDictIn K cTable = true)
    (poTable : PySem.W.plainOver K cTable = true)
    (saTable : PySem.W.findIn K (.ref cTable) "__setattr__" = some (some (.builtin "object.__setattr__")))
    (nTable__entries : PySem.W.findIn K (.ref cTable) "_entries" = some none)
    (haTable : PySem.W.findIn K (.ref cTable) "__class__" = some (some (.builtin "object.__class__")))
    (hmTable : PySem.W.mroIn K cTable (.type "object") = some true)
    (uInstance : PySem.W.nsIn K mainGlobals "Instance" = some (some (.ref cInstance)))
    (mkInstance : PySem.W.makesIn K cInstance = true)
    (kcInstance : PySem.W.keepIn K (.ref cInstance) = true)
    (pgInstance : PySem.W.plainGet K cInstance Str.empty = true)
    (hdInstance : PySem.W.hasDictIn K cInstance = true)
    (poInstance : PySem.W.plainOver K cInstance = true)
    (saInstance : PySem.W.findIn K (.ref cInstance) "__setattr__" = some (some (.builtin "object.__setattr__")))
    (nInstance_owner : PySem.W.findIn K (.ref cInstance) "owner" = some none)
    (nInstance_named : PySem.W.findIn K (.ref cInstance) "named" = some none)
    (haInstance : PySem.W.findIn K (.ref cInstance) "__class__" = some (some (.builtin "object.__class__")))
    (hmInstance : PySem.W.mroIn K cInstance (.type "object") = some true)
    (uKin : PySem.W.nsIn K mainGlobals "Kin" = some (some (.ref cKin)))
    (mkKin : PySem.W.makesIn K cKin = true)
    (kcKin : PySem.W.keepIn K (.ref cKin) = true)
    (pgKin : PySem.W.plainGet K cKin Str.empty = true)
    (hdKin : PySem.W.hasDictIn K cKin = true)
    (poKin : PySem.W.plainOver K cKin = true)
    (saKin : PySem.W.findIn K (.ref cKin) "__setattr__" = some (some (.builtin "object.__setattr__")))
    (nKin_name : PySem.W.findIn K (.ref cKin) "name" = some none)
    (nKin_parent : PySem.W.findIn K (.ref cKin) "parent" = some none)
    (nKin_methods : PySem.W.findIn K (.ref cKin) "methods" = some none)
    (haKin : PySem.W.findIn K (.ref cKin) "__class__" = some (some (.builtin "object.__class__")))
    (hmKin : PySem.W.mroIn K cKin (.type "object") = some true)
    (uClosure : PySem.W.nsIn K mainGlobals "Closure" = some (some (.ref cClosure)))
    (mkClosure : PySem.W.makesIn K cClosure = true)
    (kcClosure : PySem.W.keepIn K (.ref cClosure) = true)
    (pgClosure : PySem.W.plainGet K cClosure Str.empty = true)
    (hdClosure : PySem.W.hasDictIn K cClosure = true)
    (poClosure : PySem.W.plainOver K cClosure = true)
    (saClosure : PySem.W.findIn K (.ref cClosure) "__setattr__" = some (some (.builtin "object.__setattr__")))
    (nClosure_number : PySem.W.findIn K (.ref cClosure) "number" = some none)
    (nClosure_wanted : PySem.W.findIn K (.ref cClosure) "wanted" = some none)
    (nClosure_scope : PySem.W.findIn K (.ref cClosure) "scope" = some none)
    (haClosure : PySem.W.findIn K (.ref cClosure) "__class__" = some (some (.builtin "object.__class__")))
    (hmClosure : PySem.W.mroIn K cClosure (.type "object") = some true)
    (uStore : PySem.W.nsIn K mainGlobals "Store" = some (some (.ref cStore)))
    (mkStore : PySem.W.makesIn K cStore = true)
    (kcStore : PySem.W.keepIn K (.ref cStore) = true)
    (pgStore : PySem.W.plainGet K cStore Str.empty = true)
    (hdStore : PySem.W.hasDictIn K cStore = true)
    (poStore : PySem.W.plainOver K cStore = true)
    (saStore : PySem.W.findIn K (.ref cStore) "__setattr__" = some (some (.builtin "object.__setattr__")))
    (nStore_things : PySem.W.findIn K (.ref cStore) "things" = some none)
    (nStore_output : PySem.W.findIn K (.ref cStore) "output" = some none)
    (nStore_lines : PySem.W.findIn K (.ref cStore) "lines" = some none)
    (nStore_taken : PySem.W.findIn K (.ref cStore) "taken" = some none)
    (haStore : PySem.W.findIn K (.ref cStore) "__class__" = some (some (.builtin "object.__class__")))
    (hmStore : PySem.W.mroIn K cStore (.type "object") = some true)
    (uLivequillError : PySem.W.nsIn K mainGlobals "LivequillError" = some (some (.ref cLivequillError)))
    (uScriptError : PySem.W.nsIn K mainGlobals "ScriptError" = some (some (.ref cScriptError)))
    (xScriptError : K.lookup cScriptError = some (excClassObj nmScriptError qScriptError cScriptError NScriptError bsScriptError [.ref cLivequillError, .type "ValueError", .type "Exception", .type "BaseException", .type "object"] true snScriptError subScriptError abScriptError colScriptError ddScriptError m0ScriptError m1ScriptError m2ScriptError m3ScriptError m5ScriptError "ValueError.__new__"))
    (saScriptError : PySem.W.findIn K (.ref cScriptError) "__setattr__" = some (some (.builtin "object.__setattr__")))
    (exScriptError : PySem.W.subIn K (.ref cScriptError) (.type "BaseException") = some true)
    (tpScriptError : PySem.W.typeIn K (.ref cScriptError) = some (.type "type"))
    (kpScriptError : PySem.W.keepIn K (.ref cScriptError) = true)
    (n1ScriptError : PySem.W.findIn K (.ref cScriptError) "kind" = some none)
    (n2ScriptError : PySem.W.findIn K (.ref cScriptError) "message" = some none)
    (iScriptError : PySem.W.findIn K (.ref cScriptError) "__init__" = some (some (.ref fScriptError)))
    (tiScriptError : PySem.W.typeIn K (.ref fScriptError) = some (.type "function"))
    (gaScriptError : PySem.W.findIn K (.ref cScriptError) "__getattribute__" = some (some (.builtin "BaseException.__getattribute__")))
    (ggScriptError : PySem.W.findIn K (.ref cScriptError) "__getattr__" = some none)
    (hdScriptError : PySem.W.hasDictIn K cScriptError = true)
    (ssScriptError : PySem.W.subIn K (.ref cScriptError) (.ref cScriptError) = some true)
    (liScriptError : K.lookup fScriptError = some ⟨ocScriptError, odScriptError, .func (PySem.W.ksFn "__init__" "ScriptError.__init__" (defArgs sx_ScriptError) (defBody sx_ScriptError) (defScope sx_ScriptError) .none kVScriptError dcScriptError pmScriptError anScriptError (.ref cdaScriptError) ctScriptError ccScriptError), slScriptError⟩)
    (ciScriptError : PySem.W.codeIn K (.ref cdaScriptError) "ScriptError.__init__" = true)
    (coScriptError : K.lookup cdaScriptError = some ⟨cclScriptError, cddScriptError, .fields cvsScriptError, ccsScriptError⟩)
    (cvScriptError : cvsScriptError[2]? = some (.str flScriptError tfScriptError))
    (fiScriptError : ((l.prog.main.file : Str) == flScriptError) = true)
    (ceScriptError : K.lookup ccScriptError = some ⟨cl_ScriptError, cldScriptError, .cell (some (.ref cScriptError)), cslScriptError⟩)
    (toSup : (l.prog.main.scope.names.lookup ("super" : Str)).isSome = false)
    (suSup : PySem.W.nsIn K mainGlobals "super" = some none)
    (opSup : PySem.W.nsIn K PySem.cStatics "thirdparty.any" = some none)
    (mrScriptError : PySem.W.mroIn K cScriptError (.ref cScriptError) = some true)
    (ksScriptError : PySem.W.ks_superIn K cScriptError cScriptError "__init__" = some (some (.builtin "ValueError.__init__")))
    (vaScriptError : PySem.W.subIn K (.ref cScriptError) (.type "ValueError") = some true)
    (haScriptError : PySem.W.findIn K (.ref cScriptError) "__class__" = some (some (.builtin "object.__class__")))
    (hmScriptError : PySem.W.mroIn K cScriptError (.type "object") = some true)
    (klScriptErrorLivequillError : PySem.W.kitOne K (.ref cScriptError) (.ref cLivequillError) = some true)
    (af_tagged : PySem.W.nsIn K mainGlobals "tagged" = some (some (.ref a_tagged)))
    (lf_tagged : K.lookup a_tagged = some ⟨ocf_tagged, odf_tagged, .func (PySem.W.fnOf "tagged" "tagged" (defArgs s_tagged) (defBody s_tagged) (defScope s_tagged) .none kVf_tagged dcf_tagged pmf_tagged anf_tagged cdf_tagged ctf_tagged), slf_tagged⟩)
    (cf_tagged : PySem.W.codeIn K cdf_tagged "tagged" = true)
    (kf_tagged : PySem.W.keepIn K (.ref a_tagged) = true)
    (af_kind_of : PySem.W.nsIn K mainGlobals "kind_of" = some (some (.ref a_kind_of)))
    (lf_kind_of : K.lookup a_kind_of = some ⟨ocf_kind_of, odf_kind_of, .func (PySem.W.fnOf "kind_of" "kind_of" (defArgs s_kind_of) (defBody s_kind_of) (defScope s_kind_of) .none kVf_kind_of dcf_kind_of pmf_kind_of anf_kind_of cdf_kind_of ctf_kind_of), slf_kind_of⟩)
    (cf_kind_of : PySem.W.codeIn K cdf_kind_of "kind_of" = true)
    (kf_kind_of : PySem.W.keepIn K (.ref a_kind_of) = true)
    (af_kind_of_thing : PySem.W.nsIn K mainGlobals "kind_of_thing" = some (some (.ref a_kind_of_thing)))
    (lf_kind_of_thing : K.lookup a_kind_of_thing = some ⟨ocf_kind_of_thing, odf_kind_of_thing, .func (PySem.W.fnOf "kind_of_thing" "kind_of_thing" (defArgs s_kind_of_thing) (defBody s_kind_of_thing) (defScope s_kind_of_thing) .none kVf_kind_of_thing dcf_kind_of_thing pmf_kind_of_thing anf_kind_of_thing cdf_kind_of_thing ctf_kind_of_thing), slf_kind_of_thing⟩)
    (cf_kind_of_thing : PySem.W.codeIn K cdf_kind_of_thing "kind_of_thing" = true)
    (kf_kind_of_thing : PySem.W.keepIn K (.ref a_kind_of_thing) = true)
    (af_is_true : PySem.W.nsIn K mainGlobals "is_true" = some (some (.ref a_is_true)))
    (lf_is_true : K.lookup a_is_true = some ⟨ocf_is_true, odf_is_true, .func (PySem.W.fnOf "is_true" "is_true" (defArgs s_is_true) (defBody s_is_true) (defScope s_is_true) .none kVf_is_true dcf_is_true pmf_is_true anf_is_true cdf_is_true ctf_is_true), slf_is_true⟩)
    (cf_is_true : PySem.W.codeIn K cdf_is_true "is_true" = true)
    (kf_is_true : PySem.W.keepIn K (.ref a_is_true) = true)
    (af_equal : PySem.W.nsIn K mainGlobals "equal" = some (some (.ref a_equal)))
    (lf_equal : K.lookup a_equal = some ⟨ocf_equal, odf_equal, .func (PySem.W.fnOf "equal" "equal" (defArgs s_equal) (defBody s_equal) (defScope s_equal) .none kVf_equal dcf_equal pmf_equal anf_equal cdf_equal ctf_equal), slf_equal⟩)
    (cf_equal : PySem.W.codeIn K cdf_equal "equal" = true)
    (kf_equal : PySem.W.keepIn K (.ref a_equal) = true)
    (af_is_key : PySem.W.nsIn K mainGlobals "is_key" = some (some (.ref a_is_key)))
    (lf_is_key : K.lookup a_is_key = some ⟨ocf_is_key, odf_is_key, .func (PySem.W.fnOf "is_key" "is_key" (defArgs s_is_key) (defBody s_is_key) (defScope s_is_key) .none kVf_is_key dcf_is_key pmf_is_key anf_is_key cdf_is_key ctf_is_key), slf_is_key⟩)
    (cf_is_key : PySem.W.codeIn K cdf_is_key "is_key" = true)
    (kf_is_key : PySem.W.keepIn K (.ref a_is_key) = true)
    (af_is_below : PySem.W.nsIn K mainGlobals "is_below" = some (some (.ref a_is_below)))
    (lf_is_below : K.lookup a_is_below = some ⟨ocf_is_below, odf_is_below, .func (PySem.W.fnOf "is_below" "is_below" (defArgs s_is_below) (defBody s_is_below) (defScope s_is_below) .none kVf_is_below dcf_is_below pmf_is_below anf_is_below cdf_is_below ctf_is_below), slf_is_below⟩)
    (cf_is_below : PySem.W.codeIn K cdf_is_below "is_below" = true)
    (kf_is_below : PySem.W.keepIn K (.ref a_is_below) = true)
    (af_check_size : PySem.W.nsIn K mainGlobals "check_size" = some (some (.ref a_check_size)))
    (lf_check_size : K.lookup a_check_size = some ⟨ocf_check_size, odf_check_size, .func (PySem.W.fnOf "check_size" "check_size" (defArgs s_check_size) (defBody s_check_size) (defScope s_check_size) .none kVf_check_size dcf_check_size pmf_check_size anf_check_size cdf_check_size ctf_check_size), slf_check_size⟩)
    (cf_check_size : PySem.W.codeIn K cdf_check_size "check_size" = true)
    (kf_check_size : PySem.W.keepIn K (.ref a_check_size) = true)
    (af_is_bounded : PySem.W.nsIn K mainGlobals "is_bounded" = some (some (.ref a_is_bounded)))
    (lf_is_bounded : K.lookup a_is_bounded = some ⟨ocf_is_bounded, odf_is_bounded, .func (PySem.W.fnOf "is_bounded" "is_bounded" (defArgs s_is_bounded) (defBody s_is_bounded) (defScope s_is_bounded) .none kVf_is_bounded dcf_is_bounded pmf_is_bounded anf_is_bounded cdf_is_bounded ctf_is_bounded), slf_is_bounded⟩)
    (cf_is_bounded : PySem.W.codeIn K cdf_is_bounded "is_bounded" = true)
    (kf_is_bounded : PySem.W.keepIn K (.ref a_is_bounded) = true)
    (af_checked_integer : PySem.W.nsIn K mainGlobals "checked_integer" = some (some (.ref a_checked_integer)))
    (lf_checked_integer : K.lookup a_checked_integer = some ⟨ocf_checked_integer, odf_checked_integer, .func (PySem.W.fnOf "checked_integer" "checked_integer" (defArgs s_checked_integer) (defBody s_checked_integer) (defScope s_checked_integer) .none kVf_checked_integer dcf_checked_integer pmf_checked_integer anf_checked_integer cdf_checked_integer ctf_checked_integer), slf_checked_integer⟩)
    (cf_checked_integer : PySem.W.codeIn K cdf_checked_integer "checked_integer" = true)
    (kf_checked_integer : PySem.W.keepIn K (.ref a_checked_integer) = true)
    (af_unary : PySem.W.nsIn K mainGlobals "unary" = some (some (.ref a_unary)))
    (lf_unary : K.lookup a_unary = some ⟨ocf_unary, odf_unary, .func (PySem.W.fnOf "unary" "unary" (defArgs s_unary) (defBody s_unary) (defScope s_unary) .none kVf_unary dcf_unary pmf_unary anf_unary cdf_unary ctf_unary), slf_unary⟩)
    (cf_unary : PySem.W.codeIn K cdf_unary "unary" = true)
    (kf_unary : PySem.W.keepIn K (.ref a_unary) = true)
    (af_binary : PySem.W.nsIn K mainGlobals "binary" = some (some (.ref a_binary)))
    (lf_binary : K.lookup a_binary = some ⟨ocf_binary, odf_binary, .func (PySem.W.fnOf "binary" "binary" (defArgs s_binary) (defBody s_binary) (defScope s_binary) .none kVf_binary dcf_binary pmf_binary anf_binary cdf_binary ctf_binary), slf_binary⟩)
    (cf_binary : PySem.W.codeIn K cdf_binary "binary" = true)
    (kf_binary : PySem.W.keepIn K (.ref a_binary) = true)
    (af_is_instance : PySem.W.nsIn K mainGlobals "is_instance" = some (some (.ref a_is_instance)))
    (lf_is_instance : K.lookup a_is_instance = some ⟨ocf_is_instance, odf_is_instance, .func (PySem.W.fnOf "is_instance" "is_instance" (defArgs s_is_instance) (defBody s_is_instance) (defScope s_is_instance) .none kVf_is_instance dcf_is_instance pmf_is_instance anf_is_instance cdf_is_instance ctf_is_instance), slf_is_instance⟩)
    (cf_is_instance : PySem.W.codeIn K cdf_is_instance "is_instance" = true)
    (kf_is_instance : PySem.W.keepIn K (.ref a_is_instance) = true)
    (af_kinds_of : PySem.W.nsIn K mainGlobals "kinds_of" = some (some (.ref a_kinds_of)))
    (lf_kinds_of : K.lookup a_kinds_of = some ⟨ocf_kinds_of, odf_kinds_of, .func (PySem.W.fnOf "kinds_of" "kinds_of" (defArgs s_kinds_of) (defBody s_kinds_of) (defScope s_kinds_of) .none kVf_kinds_of dcf_kinds_of pmf_kinds_of anf_kinds_of cdf_kinds_of ctf_kinds_of), slf_kinds_of⟩)
    (cf_kinds_of : PySem.W.codeIn K cdf_kinds_of "kinds_of" = true)
    (kf_kinds_of : PySem.W.keepIn K (.ref a_kinds_of) = true)
    (af_refuse_operands : PySem.W.nsIn K mainGlobals "refuse_operands" = some (some (.ref a_refuse_operands)))
    (lf_refuse_operands : K.lookup a_refuse_operands = some ⟨ocf_refuse_operands, odf_refuse_operands, .func (PySem.W.fnOf "refuse_operands" "refuse_operands" (defArgs s_refuse_operands) (defBody s_refuse_operands) (defScope s_refuse_operands) .none kVf_refuse_operands dcf_refuse_operands pmf_refuse_operands anf_refuse_operands cdf_refuse_operands ctf_refuse_operands), slf_refuse_operands⟩)
    (cf_refuse_operands : PySem.W.codeIn K cdf_refuse_operands "refuse_operands" = true)
    (kf_refuse_operands : PySem.W.keepIn K (.ref a_refuse_operands) = true)
    (af_add : PySem.W.nsIn K mainGlobals "add" = some (some (.ref a_add)))
    (lf_add : K.lookup a_add = some ⟨ocf_add, odf_add, .func (PySem.W.fnOf "add" "add" (defArgs s_add) (defBody s_add) (defScope s_add) .none kVf_add dcf_add pmf_add anf_add cdf_add ctf_add), slf_add⟩)
    (cf_add : PySem.W.codeIn K cdf_add "add" = true)
    (kf_add : PySem.W.keepIn K (.ref a_add) = true)
    (af_compare : PySem.W.nsIn K mainGlobals "compare" = some (some (.ref a_compare)))
    (lf_compare : K.lookup a_compare = some ⟨ocf_compare, odf_compare, .func (PySem.W.fnOf "compare" "compare" (defArgs s_compare) (defBody s_compare) (defScope s_compare) .none kVf_compare dcf_compare pmf_compare anf_compare cdf_compare ctf_compare), slf_compare⟩)
    (cf_compare : PySem.W.codeIn K cdf_compare "compare" = true)
    (kf_compare : PySem.W.keepIn K (.ref a_compare) = true)
    (af_calculate : PySem.W.nsIn K mainGlobals "calculate" = some (some (.ref a_calculate)))
    (lf_calculate : K.lookup a_calculate = some ⟨ocf_calculate, odf_calculate, .func (PySem.W.fnOf "calculate" "calculate" (defArgs s_calculate) (defBody s_calculate) (defScope s_calculate) .none kVf_calculate dcf_calculate pmf_calculate anf_calculate cdf_calculate ctf_calculate), slf_calculate⟩)
    (cf_calculate : PySem.W.codeIn K cdf_calculate "calculate" = true)
    (kf_calculate : PySem.W.keepIn K (.ref a_calculate) = true)
    (af_check_key : PySem.W.nsIn K mainGlobals "check_key" = some (some (.ref a_check_key)))
    (lf_check_key : K.lookup a_check_key = some ⟨ocf_check_key, odf_check_key, .func (PySem.W.fnOf "check_key" "check_key" (defArgs s_check_key) (defBody s_check_key) (defScope s_check_key) .none kVf_check_key dcf_check_key pmf_check_key anf_check_key cdf_check_key ctf_check_key), slf_check_key⟩)
    (cf_check_key : PySem.W.codeIn K cdf_check_key "check_key" = true)
    (kf_check_key : PySem.W.keepIn K (.ref a_check_key) = true)
    (af_put_entry : PySem.W.nsIn K mainGlobals "put_entry" = some (some (.ref a_put_entry)))
    (lf_put_entry : K.lookup a_put_entry = some ⟨ocf_put_entry, odf_put_entry, .func (PySem.W.fnOf "put_entry" "put_entry" (defArgs s_put_entry) (defBody s_put_entry) (defScope s_put_entry) .none kVf_put_entry dcf_put_entry pmf_put_entry anf_put_entry cdf_put_entry ctf_put_entry), slf_put_entry⟩)
    (cf_put_entry : PySem.W.codeIn K cdf_put_entry "put_entry" = true)
    (kf_put_entry : PySem.W.keepIn K (.ref a_put_entry) = true)
    (af_make_list : PySem.W.nsIn K mainGlobals "make_list" = some (some (.ref a_make_list)))
    (lf_make_list : K.lookup a_make_list = some ⟨ocf_make_list, odf_make_list, .func (PySem.W.fnOf "make_list" "make_list" (defArgs s_make_list) (defBody s_make_list) (defScope s_make_list) .none kVf_make_list dcf_make_list pmf_make_list anf_make_list cdf_make_list ctf_make_list), slf_make_list⟩)
    (cf_make_list : PySem.W.codeIn K cdf_make_list "make_list" = true)
    (kf_make_list : PySem.W.keepIn K (.ref a_make_list) = true)
    (af_make_map : PySem.W.nsIn K mainGlobals "make_map" = some (some (.ref a_make_map)))
    (lf_make_map : K.lookup a_make_map = some ⟨ocf_make_map, odf_make_map, .func (PySem.W.fnOf "make_map" "make_map" (defArgs s_make_map) (defBody s_make_map) (defScope s_make_map) .none kVf_make_map dcf_make_map pmf_make_map anf_make_map cdf_make_map ctf_make_map), slf_make_map⟩)
    (cf_make_map : PySem.W.codeIn K cdf_make_map "make_map" = true)
    (kf_make_map : PySem.W.keepIn K (.ref a_make_map) = true)
    (af_make_class : PySem.W.nsIn K mainGlobals "make_class" = some (some (.ref a_make_class)))
    (lf_make_class : K.lookup a_make_class = some ⟨ocf_make_class, odf_make_class, .func (PySem.W.fnOf "make_class" "make_class" (defArgs s_make_class) (defBody s_make_class) (defScope s_make_class) .none kVf_make_class dcf_make_class pmf_make_class anf_make_class cdf_make_class ctf_make_class), slf_make_class⟩)
    (cf_make_class : PySem.W.codeIn K cdf_make_class "make_class" = true)
    (kf_make_class : PySem.W.keepIn K (.ref a_make_class) = true)
    (af_law_cell : PySem.W.nsIn K mainGlobals "_law_cell" = some (some (.ref a_law_cell)))
    (lf_law_cell : K.lookup a_law_cell = some ⟨ocf_law_cell, odf_law_cell, .func (PySem.W.fnOf "_law_cell" "_law_cell" (defArgs s_law_cell) (defBody s_law_cell) (defScope s_law_cell) .none kVf_law_cell dcf_law_cell pmf_law_cell anf_law_cell cdf_law_cell ctf_law_cell), slf_law_cell⟩)
    (cf_law_cell : PySem.W.codeIn K cdf_law_cell "_law_cell" = true)
    (kf_law_cell : PySem.W.keepIn K (.ref a_law_cell) = true)
    (af_law_is_integer : PySem.W.nsIn K mainGlobals "_law_is_integer" = some (some (.ref a_law_is_integer)))
    (lf_law_is_integer : K.lookup a_law_is_integer = some ⟨ocf_law_is_integer, odf_law_is_integer, .func (PySem.W.fnOf "_law_is_integer" "_law_is_integer" (defArgs s_law_is_integer) (defBody s_law_is_integer) (defScope s_law_is_integer) .none kVf_law_is_integer dcf_law_is_integer pmf_law_is_integer anf_law_is_integer cdf_law_is_integer ctf_law_is_integer), slf_law_is_integer⟩)
    (cf_law_is_integer : PySem.W.codeIn K cdf_law_is_integer "_law_is_integer" = true)
    (kf_law_is_integer : PySem.W.keepIn K (.ref a_law_is_integer) = true)
    (af_law_begin : PySem.W.nsIn K mainGlobals "_law_begin" = some (some (.ref a_law_begin)))
    (lf_law_begin : K.lookup a_law_begin = some ⟨ocf_law_begin, odf_law_begin, .func (PySem.W.fnOf "_law_begin" "_law_begin" (defArgs s_law_begin) (defBody s_law_begin) (defScope s_law_begin) .none kVf_law_begin dcf_law_begin pmf_law_begin anf_law_begin cdf_law_begin ctf_law_begin), slf_law_begin⟩)
    (cf_law_begin : PySem.W.codeIn K cdf_law_begin "_law_begin" = true)
    (kf_law_begin : PySem.W.keepIn K (.ref a_law_begin) = true)
    (af_law_draw : PySem.W.nsIn K mainGlobals "_law_draw" = some (some (.ref a_law_draw)))
    (lf_law_draw : K.lookup a_law_draw = some ⟨ocf_law_draw, odf_law_draw, .func (PySem.W.fnOf "_law_draw" "_law_draw" (defArgs s_law_draw) (defBody s_law_draw) (defScope s_law_draw) .none kVf_law_draw dcf_law_draw pmf_law_draw anf_law_draw cdf_law_draw ctf_law_draw), slf_law_draw⟩)
    (cf_law_draw : PySem.W.codeIn K cdf_law_draw "_law_draw" = true)
    (kf_law_draw : PySem.W.keepIn K (.ref a_law_draw) = true)
    (af_law_pick : PySem.W.nsIn K mainGlobals "_law_pick" = some (some (.ref a_law_pick)))
    (lf_law_pick : K.lookup a_law_pick = some ⟨ocf_law_pick, odf_law_pick, .func (PySem.W.fnOf "_law_pick" "_law_pick" (defArgs s_law_pick) (defBody s_law_pick) (defScope s_law_pick) .none kVf_law_pick dcf_law_pick pmf_law_pick anf_law_pick cdf_law_pick ctf_law_pick), slf_law_pick⟩)
    (cf_law_pick : PySem.W.codeIn K cdf_law_pick "_law_pick" = true)
    (kf_law_pick : PySem.W.keepIn K (.ref a_law_pick) = true)
    (af_law_text : PySem.W.nsIn K mainGlobals "_law_text" = some (some (.ref a_law_text)))
    (lf_law_text : K.lookup a_law_text = some ⟨ocf_law_text, odf_law_text, .func (PySem.W.fnOf "_law_text" "_law_text" (defArgs s_law_text) (defBody s_law_text) (defScope s_law_text) .none kVf_law_text dcf_law_text pmf_law_text anf_law_text cdf_law_text ctf_law_text), slf_law_text⟩)
    (cf_law_text : PySem.W.codeIn K cdf_law_text "_law_text" = true)
    (kf_law_text : PySem.W.keepIn K (.ref a_law_text) = true)
    (af_law_store : PySem.W.nsIn K mainGlobals "_law_store" = some (some (.ref a_law_store)))
    (lf_law_store : K.lookup a_law_store = some ⟨ocf_law_store, odf_law_store, .func (PySem.W.fnOf "_law_store" "_law_store" (defArgs s_law_store) (defBody s_law_store) (defScope s_law_store) .none kVf_law_store dcf_law_store pmf_law_store anf_law_store cdf_law_store ctf_law_store), slf_law_store⟩)
    (cf_law_store : PySem.W.codeIn K cdf_law_store "_law_store" = true)
    (kf_law_store : PySem.W.keepIn K (.ref a_law_store) = true)
    (af_law_value : PySem.W.nsIn K mainGlobals "_law_value" = some (some (.ref a_law_value)))
    (lf_law_value : K.lookup a_law_value = some ⟨ocf_law_value, odf_law_value, .func (PySem.W.fnOf "_law_value" "_law_value" (defArgs s_law_value) (defBody s_law_value) (defScope s_law_value) .none kVf_law_value dcf_law_value pmf_law_value anf_law_value cdf_law_value ctf_law_value), slf_law_value⟩)
    (cf_law_value : PySem.W.codeIn K cdf_law_value "_law_value" = true)
    (kf_law_value : PySem.W.keepIn K (.ref a_law_value) = true)
    (af_law_kind : PySem.W.nsIn K mainGlobals "_law_kind" = some (some (.ref a_law_kind)))
    (lf_law_kind : K.lookup a_law_kind = some ⟨ocf_law_kind, odf_law_kind, .func (PySem.W.fnOf "_law_kind" "_law_kind" (defArgs s_law_kind) (defBody s_law_kind) (defScope s_law_kind) .none kVf_law_kind dcf_law_kind pmf_law_kind anf_law_kind cdf_law_kind ctf_law_kind), slf_law_kind⟩)
    (cf_law_kind : PySem.W.codeIn K cdf_law_kind "_law_kind" = true)
    (kf_law_kind : PySem.W.keepIn K (.ref a_law_kind) = true)
    (af_law_told : PySem.W.nsIn K mainGlobals "_law_told" = some (some (.ref a_law_told)))
    (lf_law_told : K.lookup a_law_told = some ⟨ocf_law_told, odf_law_told, .func (PySem.W.fnOf "_law_told" "_law_told" (defArgs s_law_told) (defBody s_law_told) (defScope s_law_told) .none kVf_law_told dcf_law_told pmf_law_told anf_law_told cdf_law_told ctf_law_told), slf_law_told⟩)
    (cf_law_told : PySem.W.codeIn K cdf_law_told "_law_told" = true)
    (kf_law_told : PySem.W.keepIn K (.ref a_law_told) = true)
    (af_law_added : PySem.W.nsIn K mainGlobals "_law_added" = some (some (.ref a_law_added)))
    (lf_law_added : K.lookup a_law_added = some ⟨ocf_law_added, odf_law_added, .func (PySem.W.fnOf "_law_added" "_law_added" (defArgs s_law_added) (defBody s_law_added) (defScope s_law_added) .none kVf_law_added dcf_law_added pmf_law_added anf_law_added cdf_law_added ctf_law_added), slf_law_added⟩)
    (cf_law_added : PySem.W.codeIn K cdf_law_added "_law_added" = true)
    (kf_law_added : PySem.W.keepIn K (.ref a_law_added) = true)
    (af_law_compared : PySem.W.nsIn K mainGlobals "_law_compared" = some (some (.ref a_law_compared)))
    (lf_law_compared : K.lookup a_law_compared = some ⟨ocf_law_compared, odf_law_compared, .func (PySem.W.fnOf "_law_compared" "_law_compared" (defArgs s_law_compared) (defBody s_law_compared) (defScope s_law_compared) .none kVf_law_compared dcf_law_compared pmf_law_compared anf_law_compared cdf_law_compared ctf_law_compared), slf_law_compared⟩)
    (cf_law_compared : PySem.W.codeIn K cdf_law_compared "_law_compared" = true)
    (kf_law_compared : PySem.W.keepIn K (.ref a_law_compared) = true)
    (af_law_is : PySem.W.nsIn K mainGlobals "_law_is" = some (some (.ref a_law_is)))
    (lf_law_is : K.lookup a_law_is = some ⟨ocf_law_is, odf_law_is, .func (PySem.W.fnOf "_law_is" "_law_is" (defArgs s_law_is) (defBody s_law_is) (defScope s_law_is) .none kVf_law_is dcf_law_is pmf_law_is anf_law_is cdf_law_is ctf_law_is), slf_law_is⟩)
    (cf_law_is : PySem.W.codeIn K cdf_law_is "_law_is" = true)
    (kf_law_is : PySem.W.keepIn K (.ref a_law_is) = true)
    (af_law_negated : PySem.W.nsIn K mainGlobals "_law_negated" = some (some (.ref a_law_negated)))
    (lf_law_negated : K.lookup a_law_negated = some ⟨ocf_law_negated, odf_law_negated, .func (PySem.W.fnOf "_law_negated" "_law_negated" (defArgs s_law_negated) (defBody s_law_negated) (defScope s_law_negated) .none kVf_law_negated dcf_law_negated pmf_law_negated anf_law_negated cdf_law_negated ctf_law_negated), slf_law_negated⟩)
    (cf_law_negated : PySem.W.codeIn K cdf_law_negated "_law_negated" = true)
    (kf_law_negated : PySem.W.keepIn K (.ref a_law_negated) = true)
    (alaw : PySem.W.nsIn K mainGlobals "law" = some (some (.ref a_law)))
    (llaw : K.lookup a_law = some ⟨oclaw, odlaw, .func (PySem.W.fnOf "law" "law" (defArgs s_law) (defBody s_law) (defScope s_law) .none kVlaw dclaw pmlaw anlaw cdlaw ctlaw), sllaw⟩)
    (claw : PySem.W.codeIn K cdlaw "law" = true)
    (klaw : PySem.W.keepIn K (.ref a_law) = true)
    (af_Ref_init : PySem.W.findIn K (.ref cRef) "__init__" = some (some (.ref a_Ref_init)))
    (if_Ref_init : PySem.W.isFn K (.ref a_Ref_init) = true)
    (lf_Ref_init : K.lookup a_Ref_init = some ⟨ocf_Ref_init, odf_Ref_init, .func (PySem.W.fnOf "__init__" "Ref.__init__" (defArgs s_Ref_init) (defBody s_Ref_init) (defScope s_Ref_init) .none kVf_Ref_init dcf_Ref_init pmf_Ref_init anf_Ref_init cdf_Ref_init ctf_Ref_init), slf_Ref_init⟩)
    (cf_Ref_init : PySem.W.codeIn K cdf_Ref_init "Ref.__init__" = true)
    (kf_Ref_init : PySem.W.keepIn K (.ref a_Ref_init) = true)
    (af_Ref_eq : PySem.W.findIn K (.ref cRef) "__eq__" = some (some (.ref a_Ref_eq)))
    (if_Ref_eq : PySem.W.isFn K (.ref a_Ref_eq) = true)
    (lf_Ref_eq : K.lookup a_Ref_eq = some ⟨ocf_Ref_eq, odf_Ref_eq, .func (PySem.W.fnOf "__eq__" "Ref.__eq__" (defArgs s_Ref_eq) (defBody s_Ref_eq) (defScope s_Ref_eq) .none kVf_Ref_eq dcf_Ref_eq pmf_Ref_eq anf_Ref_eq cdf_Ref_eq ctf_Ref_eq), slf_Ref_eq⟩)
    (cf_Ref_eq : PySem.W.codeIn K cdf_Ref_eq "Ref.__eq__" = true)
    (kf_Ref_eq : PySem.W.keepIn K (.ref a_Ref_eq) = true)
    (af_Builtin_init : PySem.W.findIn K (.ref cBuiltin) "__init__" = some (some (.ref a_Builtin_init)))
    (if_Builtin_init : PySem.W.isFn K (.ref a_Builtin_init) = true)
    (lf_Builtin_init : K.lookup a_Builtin_init = some ⟨ocf_Builtin_init, odf_Builtin_init, .func (PySem.W.fnOf "__init__" "Builtin.__init__" (defArgs s_Builtin_init) (defBody s_Builtin_init) (defScope s_Builtin_init) .none kVf_Builtin_init dcf_Builtin_init pmf_Builtin_init anf_Builtin_init cdf_Builtin_init ctf_Builtin_init), slf_Builtin_init⟩)
    (cf_Builtin_init : PySem.W.codeIn K cdf_Builtin_init "Builtin.__init__" = true)
    (kf_Builtin_init : PySem.W.keepIn K (.ref a_Builtin_init) = true)
    (af_Builtin_eq : PySem.W.findIn K (.ref cBuiltin) "__eq__" = some (some (.ref a_Builtin_eq)))
    (if_Builtin_eq : PySem.W.isFn K (.ref a_Builtin_eq) = true)
    (lf_Builtin_eq : K.lookup a_Builtin_eq = some ⟨ocf_Builtin_eq, odf_Builtin_eq, .func (PySem.W.fnOf "__eq__" "Builtin.__eq__" (defArgs s_Builtin_eq) (defBody s_Builtin_eq) (defScope s_Builtin_eq) .none kVf_Builtin_eq dcf_Builtin_eq pmf_Builtin_eq anf_Builtin_eq cdf_Builtin_eq ctf_Builtin_eq), slf_Builtin_eq⟩)
    (cf_Builtin_eq : PySem.W.codeIn K cdf_Builtin_eq "Builtin.__eq__" = true)
    (kf_Builtin_eq : PySem.W.keepIn K (.ref a_Builtin_eq) = true)
    (af_Parts_init : PySem.W.findIn K (.ref cParts) "__init__" = some (some (.ref a_Parts_init)))
    (if_Parts_init : PySem.W.isFn K (.ref a_Parts_init) = true)
    (lf_Parts_init : K.lookup a_Parts_init = some ⟨ocf_Parts_init, odf_Parts_init, .func (PySem.W.fnOf "__init__" "Parts.__init__" (defArgs s_Parts_init) (defBody s_Parts_init) (defScope s_Parts_init) .none kVf_Parts_init dcf_Parts_init pmf_Parts_init anf_Parts_init cdf_Parts_init ctf_Parts_init), slf_Parts_init⟩)
    (cf_Parts_init : PySem.W.codeIn K cdf_Parts_init "Parts.__init__" = true)
    (kf_Parts_init : PySem.W.keepIn K (.ref a_Parts_init) = true)
    (af_Table_init : PySem.W.findIn K (.ref cTable) "__init__" = some (some (.ref a_Table_init)))
    (if_Table_init : PySem.W.isFn K (.ref a_Table_init) = true)
    (lf_Table_init : K.lookup a_Table_init = some ⟨ocf_Table_init, odf_Table_init, .func (PySem.W.fnOf "__init__" "Table.__init__" (defArgs s_Table_init) (defBody s_Table_init) (defScope s_Table_init) .none kVf_Table_init dcf_Table_init pmf_Table_init anf_Table_init cdf_Table_init ctf_Table_init), slf_Table_init⟩)
    (cf_Table_init : PySem.W.codeIn K cdf_Table_init "Table.__init__" = true)
    (kf_Table_init : PySem.W.keepIn K (.ref a_Table_init) = true)
    (af_Table_has : PySem.W.findIn K (.ref cTable) "has" = some (some (.ref a_Table_has)))
    (if_Table_has : PySem.W.isFn K (.ref a_Table_has) = true)
    (lf_Table_has : K.lookup a_Table_has = some ⟨ocf_Table_has, odf_Table_has, .func (PySem.W.fnOf "has" "Table.has" (defArgs s_Table_has) (defBody s_Table_has) (defScope s_Table_has) .none kVf_Table_has dcf_Table_has pmf_Table_has anf_Table_has cdf_Table_has ctf_Table_has), slf_Table_has⟩)
    (cf_Table_has : PySem.W.codeIn K cdf_Table_has "Table.has" = true)
    (kf_Table_has : PySem.W.keepIn K (.ref a_Table_has) = true)
    (af_Table_put : PySem.W.findIn K (.ref cTable) "put" = some (some (.ref a_Table_put)))
    (if_Table_put : PySem.W.isFn K (.ref a_Table_put) = true)
    (lf_Table_put : K.lookup a_Table_put = some ⟨ocf_Table_put, odf_Table_put, .func (PySem.W.fnOf "put" "Table.put" (defArgs s_Table_put) (defBody s_Table_put) (defScope s_Table_put) .none kVf_Table_put dcf_Table_put pmf_Table_put anf_Table_put cdf_Table_put ctf_Table_put), slf_Table_put⟩)
    (cf_Table_put : PySem.W.codeIn K cdf_Table_put "Table.put" = true)
    (kf_Table_put : PySem.W.keepIn K (.ref a_Table_put) = true)
    (af_Table_pairs : PySem.W.findIn K (.ref cTable) "pairs" = some (some (.ref a_Table_pairs)))
    (if_Table_pairs : PySem.W.isFn K (.ref a_Table_pairs) = true)
    (lf_Table_pairs : K.lookup a_Table_pairs = some ⟨ocf_Table_pairs, odf_Table_pairs, .func (PySem.W.fnOf "pairs" "Table.pairs" (defArgs s_Table_pairs) (defBody s_Table_pairs) (defScope s_Table_pairs) .none kVf_Table_pairs dcf_Table_pairs pmf_Table_pairs anf_Table_pairs cdf_Table_pairs ctf_Table_pairs), slf_Table_pairs⟩)
    (cf_Table_pairs : PySem.W.codeIn K cdf_Table_pairs "Table.pairs" = true)
    (kf_Table_pairs : PySem.W.keepIn K (.ref a_Table_pairs) = true)
    (af_Table_many : PySem.W.findIn K (.ref cTable) "many" = some (some (.ref p_Table_many)))
    (pgtf_Table_many : PySem.W.specialIn K (.ref p_Table_many) "__get__" = some (some (.builtin "property.__get__")))
    (ptkf_Table_many : PySem.W.takesIn K (.ref p_Table_many) = some true)
    (prcf_Table_many : PySem.W.recIn K p_Table_many "property" = some (.ref a_Table_many :: rsf_Table_many))
    (lf_Table_many : K.lookup a_Table_many = some ⟨ocf_Table_many, odf_Table_many, .func (PySem.W.fnOf "many" "Table.many" (defArgs s_Table_many) (defBody s_Table_many) (defScope s_Table_many) .none kVf_Table_many dcf_Table_many pmf_Table_many anf_Table_many cdf_Table_many ctf_Table_many), slf_Table_many⟩)
    (cf_Table_many : PySem.W.codeIn K cdf_Table_many "Table.many" = true)
    (kf_Table_many : PySem.W.keepIn K (.ref a_Table_many) = true)
    (af_Instance_init : PySem.W.findIn K (.ref cInstance) "__init__" = some (some (.ref a_Instance_init)))
    (if_Instance_init : PySem.W.isFn K (.ref a_Instance_init) = true)
    (lf_Instance_init : K.lookup a_Instance_init = some ⟨ocf_Instance_init, odf_Instance_init, .func (PySem.W.fnOf "__init__" "Instance.__init__" (defArgs s_Instance_init) (defBody s_Instance_init) (defScope s_Instance_init) .none kVf_Instance_init dcf_Instance_init pmf_Instance_init anf_Instance_init cdf_Instance_init ctf_Instance_init), slf_Instance_init⟩)
    (cf_Instance_init : PySem.W.codeIn K cdf_Instance_init "Instance.__init__" = true)
    (kf_Instance_init : PySem.W.keepIn K (.ref a_Instance_init) = true)
    (af_Kin_init : PySem.W.findIn K (.ref cKin) "__init__" = some (some (.ref a_Kin_init)))
    (if_Kin_init : PySem.W.isFn K (.ref a_Kin_init) = true)
    (lf_Kin_init : K.lookup a_Kin_init = some ⟨ocf_Kin_init, odf_Kin_init, .func (PySem.W.fnOf "__init__" "Kin.__init__" (defArgs s_Kin_init) (defBody s_Kin_init) (defScope s_Kin_init) .none kVf_Kin_init dcf_Kin_init pmf_Kin_init anf_Kin_init cdf_Kin_init ctf_Kin_init), slf_Kin_init⟩)
    (cf_Kin_init : PySem.W.codeIn K cdf_Kin_init "Kin.__init__" = true)
    (kf_Kin_init : PySem.W.keepIn K (.ref a_Kin_init) = true)
    (af_Closure_init : PySem.W.findIn K (.ref cClosure) "__init__" = some (some (.ref a_Closure_init)))
    (if_Closure_init : PySem.W.isFn K (.ref a_Closure_init) = true)
    (lf_Closure_init : K.lookup a_Closure_init = some ⟨ocf_Closure_init, odf_Closure_init, .func (PySem.W.fnOf "__init__" "Closure.__init__" (defArgs s_Closure_init) (defBody s_Closure_init) (defScope s_Closure_init) .none kVf_Closure_init dcf_Closure_init pmf_Closure_init anf_Closure_init cdf_Closure_init ctf_Closure_init), slf_Closure_init⟩)
    (cf_Closure_init : PySem.W.codeIn K cdf_Closure_init "Closure.__init__" = true)
    (kf_Closure_init : PySem.W.keepIn K (.ref a_Closure_init) = true)
    (af_Store_init : PySem.W.findIn K (.ref cStore) "__init__" = some (some (.ref a_Store_init)))
    (if_Store_init : PySem.W.isFn K (.ref a_Store_init) = true)
    (lf_Store_init : K.lookup a_Store_init = some ⟨ocf_Store_init, odf_Store_init, .func (PySem.W.fnOf "__init__" "Store.__init__" (defArgs s_Store_init) (defBody s_Store_init) (defScope s_Store_init) .none kVf_Store_init dcf_Store_init pmf_Store_init anf_Store_init cdf_Store_init ctf_Store_init), slf_Store_init⟩)
    (cf_Store_init : PySem.W.codeIn K cdf_Store_init "Store.__init__" = true)
    (kf_Store_init : PySem.W.keepIn K (.ref a_Store_init) = true)
    (af_Store_make : PySem.W.findIn K (.ref cStore) "make" = some (some (.ref a_Store_make)))
    (if_Store_make : PySem.W.isFn K (.ref a_Store_make) = true)
    (lf_Store_make : K.lookup a_Store_make = some ⟨ocf_Store_make, odf_Store_make, .func (PySem.W.fnOf "make" "Store.make" (defArgs s_Store_make) (defBody s_Store_make) (defScope s_Store_make) .none kVf_Store_make dcf_Store_make pmf_Store_make anf_Store_make cdf_Store_make ctf_Store_make), slf_Store_make⟩)
    (cf_Store_make : PySem.W.codeIn K cdf_Store_make "Store.make" = true)
    (kf_Store_make : PySem.W.keepIn K (.ref a_Store_make) = true)
    (af_Store_at : PySem.W.findIn K (.ref cStore) "at" = some (some (.ref a_Store_at)))
    (if_Store_at : PySem.W.isFn K (.ref a_Store_at) = true)
    (lf_Store_at : K.lookup a_Store_at = some ⟨ocf_Store_at, odf_Store_at, .func (PySem.W.fnOf "at" "Store.at" (defArgs s_Store_at) (defBody s_Store_at) (defScope s_Store_at) .none kVf_Store_at dcf_Store_at pmf_Store_at anf_Store_at cdf_Store_at ctf_Store_at), slf_Store_at⟩)
    (cf_Store_at : PySem.W.codeIn K cdf_Store_at "Store.at" = true)
    (kf_Store_at : PySem.W.keepIn K (.ref a_Store_at) = true)
    (qMOST_HELD : PySem.W.nsIn K mainGlobals "MOST_HELD" = some (some (.int 1000 tkMOST_HELD)))
    (qDOUBTFUL_BITS : PySem.W.nsIn K mainGlobals "DOUBTFUL_BITS" = some (some (.int 997 tkDOUBTFUL_BITS)))
    (utORDERS : PySem.W.nsIn K mainGlobals "ORDERS" = some (some (.ref aORDERS)))
    (ltORDERS : K.lookup aORDERS = some ⟨.type "tuple", ddoORDERS, .seq itsORDERS nnORDERS, osORDERS⟩)
    (vtORDERS : Vals [.str "<", .str "<=", .str ">", .str ">="] itsORDERS.toList)
    (stORDERS : itsORDERS.size ≤ sizeLine)
    (k_Ref_Parts : PySem.W.kitOne K (.ref cRef) (.ref cParts) = some false)
    (k_Ref_Table : PySem.W.kitOne K (.ref cRef) (.ref cTable) = some false)
    (k_Ref_Instance : PySem.W.kitOne K (.ref cRef) (.ref cInstance) = some false)
    (k_Ref_Kin : PySem.W.kitOne K (.ref cRef) (.ref cKin) = some false)
    (k_Ref_Builtin : PySem.W.kitOne K (.ref cRef) (.ref cBuiltin) = some false)
    (k_Ref_bool : PySem.W.kitOne K (.ref cRef) (.type "bool") = some false)
    (k_Ref_int : PySem.W.kitOne K (.ref cRef) (.type "int") = some false)
    (k_Ref_str : PySem.W.kitOne K (.ref cRef) (.type "str") = some false)
    (k_Builtin_Ref : PySem.W.kitOne K (.ref cBuiltin) (.ref cRef) = some false)
    (k_Builtin_Parts : PySem.W.kitOne K (.ref cBuiltin) (.ref cParts) = some false)
    (k_Builtin_Table : PySem.W.kitOne K (.ref cBuiltin) (.ref cTable) = some false)
    (k_Builtin_Instance : PySem.W.kitOne K (.ref cBuiltin) (.ref cInstance) = some false)
    (k_Builtin_Kin : PySem.W.kitOne K (.ref cBuiltin) (.ref cKin) = some false)
    (k_Builtin_bool : PySem.W.kitOne K (.ref cBuiltin) (.type "bool") = some false)
    (k_Builtin_int : PySem.W.kitOne K (.ref cBuiltin) (.type "int") = some false)
    (k_Builtin_str : PySem.W.kitOne K (.ref cBuiltin) (.type "str") = some false)
    (k_Parts_Ref : PySem.W.kitOne K (.ref cParts) (.ref cRef) = some false)
    (k_Parts_Table : PySem.W.kitOne K (.ref cParts) (.ref cTable) = some false)
    (k_Parts_Instance : PySem.W.kitOne K (.ref cParts) (.ref cInstance) = some false)
    (k_Parts_Kin : PySem.W.kitOne K (.ref cParts) (.ref cKin) = some false)
    (k_Parts_Builtin : PySem.W.kitOne K (.ref cParts) (.ref cBuiltin) = some false)
    (k_Parts_bool : PySem.W.kitOne K (.ref cParts) (.type "bool") = some false)
    (k_Parts_int : PySem.W.kitOne K (.ref cParts) (.type "int") = some false)
    (k_Parts_str : PySem.W.kitOne K (.ref cParts) (.type "str") = some false)
    (k_Table_Ref : PySem.W.kitOne K (.ref cTable) (.ref cRef) = some false)
    (k_Table_Parts : PySem.W.kitOne K (.ref cTable) (.ref cParts) = some false)
    (k_Table_Instance : PySem.W.kitOne K (.ref cTable) (.ref cInstance) = some false)
    (k_Table_Kin : PySem.W.kitOne K (.ref cTable) (.ref cKin) = some false)
    (k_Table_Builtin : PySem.W.kitOne K (.ref cTable) (.ref cBuiltin) = some false)
    (k_Table_bool : PySem.W.kitOne K (.ref cTable) (.type "bool") = some false)
    (k_Table_int : PySem.W.kitOne K (.ref cTable) (.type "int") = some false)
    (k_Table_str : PySem.W.kitOne K (.ref cTable) (.type "str") = some false)
    (k_Instance_Ref : PySem.W.kitOne K (.ref cInstance) (.ref cRef) = some false)
    (k_Instance_Parts : PySem.W.kitOne K (.ref cInstance) (.ref cParts) = some false)
    (k_Instance_Table : PySem.W.kitOne K (.ref cInstance) (.ref cTable) = some false)
    (k_Instance_Kin : PySem.W.kitOne K (.ref cInstance) (.ref cKin) = some false)
    (k_Instance_Builtin : PySem.W.kitOne K (.ref cInstance) (.ref cBuiltin) = some false)
    (k_Instance_bool : PySem.W.kitOne K (.ref cInstance) (.type "bool") = some false)
    (k_Instance_int : PySem.W.kitOne K (.ref cInstance) (.type "int") = some false)
    (k_Instance_str : PySem.W.kitOne K (.ref cInstance) (.type "str") = some false)
    (k_Kin_Ref : PySem.W.kitOne K (.ref cKin) (.ref cRef) = some false)
    (k_Kin_Parts : PySem.W.kitOne K (.ref cKin) (.ref cParts) = some false)
    (k_Kin_Table : PySem.W.kitOne K (.ref cKin) (.ref cTable) = some false)
    (k_Kin_Instance : PySem.W.kitOne K (.ref cKin) (.ref cInstance) = some false)
    (k_Kin_Builtin : PySem.W.kitOne K (.ref cKin) (.ref cBuiltin) = some false)
    (k_Kin_bool : PySem.W.kitOne K (.ref cKin) (.type "bool") = some false)
    (k_Kin_int : PySem.W.kitOne K (.ref cKin) (.type "int") = some false)
    (k_Kin_str : PySem.W.kitOne K (.ref cKin) (.type "str") = some false)
    (k_Closure_Ref : PySem.W.kitOne K (.ref cClosure) (.ref cRef) = some false)
    (k_Closure_Parts : PySem.W.kitOne K (.ref cClosure) (.ref cParts) = some false)
    (k_Closure_Table : PySem.W.kitOne K (.ref cClosure) (.ref cTable) = some false)
    (k_Closure_Instance : PySem.W.kitOne K (.ref cClosure) (.ref cInstance) = some false)
    (k_Closure_Kin : PySem.W.kitOne K (.ref cClosure) (.ref cKin) = some false)
    (k_Closure_Builtin : PySem.W.kitOne K (.ref cClosure) (.ref cBuiltin) = some false)
    (k_Closure_bool : PySem.W.kitOne K (.ref cClosure) (.type "bool") = some false)
    (k_Closure_int : PySem.W.kitOne K (.ref cClosure) (.type "int") = some false)
    (k_Closure_str : PySem.W.kitOne K (.ref cClosure) (.type "str") = some false)
    (k_Store_Ref : PySem.W.kitOne K (.ref cStore) (.ref cRef) = some false)
    (k_Store_Parts : PySem.W.kitOne K (.ref cStore) (.ref cParts) = some false)
    (k_Store_Table : PySem.W.kitOne K (.ref cStore) (.ref cTable) = some false)
    (k_Store_Instance : PySem.W.kitOne K (.ref cStore) (.ref cInstance) = some false)
    (k_Store_Kin : PySem.W.kitOne K (.ref cStore) (.ref cKin) = some false)
    (k_Store_Builtin : PySem.W.kitOne K (.ref cStore) (.ref cBuiltin) = some false)
    (k_Store_bool : PySem.W.kitOne K (.ref cStore) (.type "bool") = some false)
    (k_Store_int : PySem.W.kitOne K (.ref cStore) (.type "int") = some false)
    (k_Store_str : PySem.W.kitOne K (.ref cStore) (.type "str") = some false)
    (k_NoneType_Ref : PySem.W.kitOne K (.type "NoneType") (.ref cRef) = some false)
    (k_NoneType_Parts : PySem.W.kitOne K (.type "NoneType") (.ref cParts) = some false)
    (k_NoneType_Table : PySem.W.kitOne K (.type "NoneType") (.ref cTable) = some false)
    (k_NoneType_Instance : PySem.W.kitOne K (.type "NoneType") (.ref cInstance) = some false)
    (k_NoneType_Kin : PySem.W.kitOne K (.type "NoneType") (.ref cKin) = some false)
    (k_NoneType_Builtin : PySem.W.kitOne K (.type "NoneType") (.ref cBuiltin) = some false)
    (k_bool_Ref : PySem.W.kitOne K (.type "bool") (.ref cRef) = some false)
    (k_bool_Parts : PySem.W.kitOne K (.type "bool") (.ref cParts) = some false)
    (k_bool_Table : PySem.W.kitOne K (.type "bool") (.ref cTable) = some false)
    (k_bool_Instance : PySem.W.kitOne K (.type "bool") (.ref cInstance) = some false)
    (k_bool_Kin : PySem.W.kitOne K (.type "bool") (.ref cKin) = some false)
    (k_bool_Builtin : PySem.W.kitOne K (.type "bool") (.ref cBuiltin) = some false)
    (k_int_Ref : PySem.W.kitOne K (.type "int") (.ref cRef) = some false)
    (k_int_Parts : PySem.W.kitOne K (.type "int") (.ref cParts) = some false)
    (k_int_Table : PySem.W.kitOne K (.type "int") (.ref cTable) = some false)
    (k_int_Instance : PySem.W.kitOne K (.type "int") (.ref cInstance) = some false)
    (k_int_Kin : PySem.W.kitOne K (.type "int") (.ref cKin) = some false)
    (k_int_Builtin : PySem.W.kitOne K (.type "int") (.ref cBuiltin) = some false)
    (k_str_Ref : PySem.W.kitOne K (.type "str") (.ref cRef) = some false)
    (k_str_Parts : PySem.W.kitOne K (.type "str") (.ref cParts) = some false)
    (k_str_Table : PySem.W.kitOne K (.type "str") (.ref cTable) = some false)
    (k_str_Instance : PySem.W.kitOne K (.type "str") (.ref cInstance) = some false)
    (k_str_Kin : PySem.W.kitOne K (.type "str") (.ref cKin) = some false)
    (k_str_Builtin : PySem.W.kitOne K (.type "str") (.ref cBuiltin) = some false)
    (k_tuple_Ref : PySem.W.kitOne K (.type "tuple") (.ref cRef) = some false)
    (k_tuple_Parts : PySem.W.kitOne K (.type "tuple") (.ref cParts) = some false)
    (k_tuple_Table : PySem.W.kitOne K (.type "tuple") (.ref cTable) = some false)
    (k_tuple_Instance : PySem.W.kitOne K (.type "tuple") (.ref cInstance) = some false)
    (k_tuple_Kin : PySem.W.kitOne K (.type "tuple") (.ref cKin) = some false)
    (k_tuple_Builtin : PySem.W.kitOne K (.type "tuple") (.ref cBuiltin) = some false)
    (k_list_Ref : PySem.W.kitOne K (.type "list") (.ref cRef) = some false)
    (k_list_Parts : PySem.W.kitOne K (.type "list") (.ref cParts) = some false)
    (k_list_Table : PySem.W.kitOne K (.type "list") (.ref cTable) = some false)
    (k_list_Instance : PySem.W.kitOne K (.type "list") (.ref cInstance) = some false)
    (k_list_Kin : PySem.W.kitOne K (.type "list") (.ref cKin) = some false)
    (k_list_Builtin : PySem.W.kitOne K (.type "list") (.ref cBuiltin) = some false)
    (nf_Ref_NoneType : PySem.W.notFirst K cRef (.type "NoneType") = true)
    (su_Ref_NoneType : PySem.W.subIn K (.ref cRef) (.type "NoneType") = some false)
    (nf_Ref_int : PySem.W.notFirst K cRef (.type "int") = true)
    (su_Ref_int : PySem.W.subIn K (.ref cRef) (.type "int") = some false)
    (nf_Ref_str : PySem.W.notFirst K cRef (.type "str") = true)
    (su_Ref_str : PySem.W.subIn K (.ref cRef) (.type "str") = some false)
    (nf_Ref_tuple : PySem.W.notFirst K cRef (.type "tuple") = true)
    (su_Ref_tuple : PySem.W.subIn K (.ref cRef) (.type "tuple") = some false)
    (nf_Ref_list : PySem.W.notFirst K cRef (.type "list") = true)
    (su_Ref_list : PySem.W.subIn K (.ref cRef) (.type "list") = some false)
    (nf_Ref_Builtin : PySem.W.notFirst K cRef (.ref cBuiltin) = true)
    (nf_Ref_Parts : PySem.W.notFirst K cRef (.ref cParts) = true)
    (nf_Ref_Table : PySem.W.notFirst K cRef (.ref cTable) = true)
    (nf_Ref_Instance : PySem.W.notFirst K cRef (.ref cInstance) = true)
    (nf_Ref_Kin : PySem.W.notFirst K cRef (.ref cKin) = true)
    (nf_Ref_Closure : PySem.W.notFirst K cRef (.ref cClosure) = true)
    (nf_Ref_Store : PySem.W.notFirst K cRef (.ref cStore) = true)
    (nf_Builtin_NoneType : PySem.W.notFirst K cBuiltin (.type "NoneType") = true)
    (su_Builtin_NoneType : PySem.W.subIn K (.ref cBuiltin) (.type "NoneType") = some false)
    (nf_Builtin_int : PySem.W.notFirst K cBuiltin (.type "int") = true)
    (su_Builtin_int : PySem.W.subIn K (.ref cBuiltin) (.type "int") = some false)
    (nf_Builtin_str : PySem.W.notFirst K cBuiltin (.type "str") = true)
    (su_Builtin_str : PySem.W.subIn K (.ref cBuiltin) (.type "str") = some false)
    (nf_Builtin_tuple : PySem.W.notFirst K cBuiltin (.type "tuple") = true)
    (su_Builtin_tuple : PySem.W.subIn K (.ref cBuiltin) (.type "tuple") = some false)
    (nf_Builtin_list : PySem.W.notFirst K cBuiltin (.type "list") = true)
    (su_Builtin_list : PySem.W.subIn K (.ref cBuiltin) (.type "list") = some false)
    (nf_Builtin_Ref : PySem.W.notFirst K cBuiltin (.ref cRef) = true)
    (nf_Builtin_Parts : PySem.W.notFirst K cBuiltin (.ref cParts) = true)
    (nf_Builtin_Table : PySem.W.notFirst K cBuiltin (.ref cTable) = true)
    (nf_Builtin_Instance : PySem.W.notFirst K cBuiltin (.ref cInstance) = true)
    (nf_Builtin_Kin : PySem.W.notFirst K cBuiltin (.ref cKin) = true)
    (nf_Builtin_Closure : PySem.W.notFirst K cBuiltin (.ref cClosure) = true)
    (nf_Builtin_Store : PySem.W.notFirst K cBuiltin (.ref cStore) = true)
    (zrange : PySem.W.nsIn K mainGlobals "range" = some none)
    (zlen : PySem.W.nsIn K mainGlobals "len" = some none)
    (zint : PySem.W.nsIn K mainGlobals "int" = some none)
    (zstr : PySem.W.nsIn K mainGlobals "str" = some none)
    (zbool : PySem.W.nsIn K mainGlobals "bool" = some none)
    (zisinstance : PySem.W.nsIn K mainGlobals "isinstance" = some none)
    (zlist : PySem.W.nsIn K mainGlobals "list" = some none)
    (zabs : PySem.W.nsIn K mainGlobals "abs" = some none)
    (zmin : PySem.W.nsIn K mainGlobals "min" = some none)
    (zmax : PySem.W.nsIn K mainGlobals "max" = some none)
    (udVERBS : PySem.W.nsIn K mainGlobals "VERBS" = some (some (.ref aVERBS)))
    (ldVERBS : K.lookup aVERBS = some ⟨.type "dict", none, .dict esVERBS nnVERBS, #[]⟩)
    (kdVERBS : PySem.W.KeysLit w.params esVERBS.toList)
    (ndVERBS0 : PySem.W.nsIn K aVERBS "-" = some (some (.str "subtract" tkVERBS0)))
    (ndVERBS1 : PySem.W.nsIn K aVERBS "*" = some (some (.str "multiply" tkVERBS1)))
    (ndVERBS2 : PySem.W.nsIn K aVERBS "/" = some (some (.str "divide" tkVERBS2)))
    (ndVERBS3 : PySem.W.nsIn K aVERBS "mod" = some (some (.str "divide" tkVERBS3)))
    : ∃ fd : FuncData, (∀ (s : Shared) (v : Value), BindsTo s fd ⟨[v], []⟩ [("script", v)]) ∧ ∀ base : Heap, K.In base → base.Ns mainGlobals mg → FnOk l.prog w K mg base CX0 12 fa fd ["script"] (spLaw K) := by
  have e := hfa.symm.trans (PySem.W.mg_of X G alaw)
  cases e
  have KlRef : Cls K cRef := ⟨pgRef, hdRef, poRef, saRef⟩
  have tyRef : ∀ {H : Hp} {a dx : Addr} {fs : List (Str × V)}, H a = some (.ins cRef dx fs) → TyX K H (.ref a) (.ref cRef) := fun e => .base (.ins e KlRef haRef hnTy htTy hmRef)
  have KlBuiltin : Cls K cBuiltin := ⟨pgBuiltin, hdBuiltin, poBuiltin, saBuiltin⟩
  have tyBuiltin : ∀ {H : Hp} {a dx : Addr} {fs : List (Str × V)}, H a = some (.ins cBuiltin dx fs) → TyX K H (.ref a) (.ref cBuiltin) := fun e => .base (.ins e KlBuiltin haBuiltin hnTy htTy hmBuiltin)
  have KlParts : Cls K cParts := ⟨pgParts, hdParts, poParts, saParts⟩
  have tyParts : ∀ {H : Hp} {a dx : Addr} {fs : List (Str × V)}, H a = some (.ins cParts dx fs) → TyX K H (.ref a) (.ref cParts) := fun e => .base (.ins e KlParts haParts hnTy htTy hmParts)
  have KlTable : Cls K cTable := ⟨pgTable, hdTable, poTable, saTable⟩
  have tyTable : ∀ {H : Hp} {a dx : Addr} {fs : List (Str × V)}, H a = some (.ins cTable dx fs) → TyX K H (.ref a) (.ref cTable) := fun e => .base (.ins e KlTable haTable hnTy htTy hmTable)
  have KlInstance : Cls K cInstance := ⟨pgInstance, hdInstance, poInstance, saInstance⟩
  have tyInstance : ∀ {H : Hp} {a dx : Addr} {fs : List (Str × V)}, H a = some (.ins cInstance dx fs) → TyX K H (.ref a) (.ref cInstance) := fun e => .base (.ins e KlInstance haInstance hnTy htTy hmInstance)
  have KlKin : Cls K cKin := ⟨pgKin, hdKin, poKin, saKin⟩
  have tyKin : ∀ {H : Hp} {a dx : Addr} {fs : List (Str × V)}, H a = some (.ins cKin dx fs) → TyX K H (.ref a) (.ref cKin) := fun e => .base (.ins e KlKin haKin hnTy htTy hmKin)
  have KlClosure : Cls K cClosure := ⟨pgClosure, hdClosure, poClosure, saClosure⟩
  have tyClosure : ∀ {H : Hp} {a dx : Addr} {fs : List (Str × V)}, H a = some (.ins cClosure dx fs) → TyX K H (.ref a) (.ref cClosure) := fun e => .base (.ins e KlClosure haClosure hnTy htTy hmClosure)
  have KlStore : Cls K cStore := ⟨pgStore, hdStore, poStore, saStore⟩
  have tyStore : ∀ {H : Hp} {a dx : Addr} {fs : List (Str × V)}, H a = some (.ins cStore dx fs) → TyX K H (.ref a) (.ref cStore) := fun e => .base (.ins e KlStore haStore hnTy htTy hmStore)
  have oexScriptError : OexC K cScriptError := ⟨⟨nmScriptError, qScriptError, NScriptError, bsScriptError, _, snScriptError, subScriptError, abScriptError, colScriptError, ddScriptError, m0ScriptError, m1ScriptError, m2ScriptError, m3ScriptError, m5ScriptError, xScriptError, by rfl⟩, saScriptError, exScriptError, tpScriptError, kpScriptError⟩
  have TScriptError : Exn l.prog K mg cScriptError fScriptError "kind" "message" := ⟨oexScriptError, n1ScriptError, n2ScriptError, iScriptError, tiScriptError, ⟨gaScriptError, ggScriptError, exScriptError, hdScriptError⟩, PySem.W.exm_ref exScriptError hdScriptError tpScriptError ssScriptError⟩
  have UScriptError : Sup l.prog K mg cdaScriptError ccScriptError cScriptError cScriptError := ⟨⟨_, _, _, _, _, _, coScriptError, cvScriptError, fiScriptError⟩, ⟨_, _, _, ceScriptError⟩, toSup, PySem.W.mg_none_of X G suSup, (PySem.W.any_some hdScriptError).imp fun _ h => h.1, mrScriptError, opSup, ksScriptError, vaScriptError⟩
  have bScriptError : Binds K (PySem.W.ksFn "__init__" "ScriptError.__init__" (defArgs sx_ScriptError) (defBody sx_ScriptError) (defScope sx_ScriptError) .none kVScriptError dcScriptError pmScriptError anScriptError (.ref cdaScriptError) ctScriptError ccScriptError) ["self", "kind", "message"] [] := .all fun us hl => match us, hl with | [_, _, _], _ => rfl
  have ecScriptError : ExcC K cScriptError := ⟨gaScriptError, ggScriptError, exScriptError, hdScriptError, haScriptError, hnTy, htTy, hmScriptError⟩
  have Ff_tagged := fun_mk (st := s_tagged) lf_tagged cf_tagged kf_tagged
  have bf_tagged := Ff_tagged.binds (ps := ["key"]) fun _ _ _ _ _ _ us hl => match us, hl with | [_], _ => rfl
  have glf_tagged := PySem.W.mg_of X G af_tagged
  have Ff_kind_of := fun_mk (st := s_kind_of) lf_kind_of cf_kind_of kf_kind_of
  have bf_kind_of := Ff_kind_of.binds (ps := ["store", "value"]) fun _ _ _ _ _ _ us hl => match us, hl with | [_, _], _ => rfl
  have glf_kind_of := PySem.W.mg_of X G af_kind_of
  have Ff_kind_of_thing := fun_mk (st := s_kind_of_thing) lf_kind_of_thing cf_kind_of_thing kf_kind_of_thing
  have bf_kind_of_thing := Ff_kind_of_thing.binds (ps := ["thing"]) fun _ _ _ _ _ _ us hl => match us, hl with | [_], _ => rfl
  have glf_kind_of_thing := PySem.W.mg_of X G af_kind_of_thing
  have Ff_is_true := fun_mk (st := s_is_true) lf_is_true cf_is_true kf_is_true
  have bf_is_true := Ff_is_true.binds (ps := ["value"]) fun _ _ _ _ _ _ us hl => match us, hl with | [_], _ => rfl
  have glf_is_true := PySem.W.mg_of X G af_is_true
  have Ff_equal := fun_mk (st := s_equal) lf_equal cf_equal kf_equal
  have bf_equal := Ff_equal.binds (ps := ["x", "y"]) fun _ _ _ _ _ _ us hl => match us, hl with | [_, _], _ => rfl
  have glf_equal := PySem.W.mg_of X G af_equal
  have Ff_is_key := fun_mk (st := s_is_key) lf_is_key cf_is_key kf_is_key
  have bf_is_key := Ff_is_key.binds (ps := ["value"]) fun _ _ _ _ _ _ us hl => match us, hl with | [_], _ => rfl
  have glf_is_key := PySem.W.mg_of X G af_is_key
  have Ff_is_below := fun_mk (st := s_is_below) lf_is_below cf_is_below kf_is_below
  have bf_is_below := Ff_is_below.binds (ps := ["store", "kin", "other"]) fun _ _ _ _ _ _ us hl => match us, hl with | [_, _, _], _ => rfl
  have glf_is_below := PySem.W.mg_of X G af_is_below
  have Ff_check_size := fun_mk (st := s_check_size) lf_check_size cf_check_size kf_check_size
  have bf_check_size := Ff_check_size.binds (ps := ["size"]) fun _ _ _ _ _ _ us hl => match us, hl with | [_], _ => rfl
  have glf_check_size := PySem.W.mg_of X G af_check_size
  have Ff_is_bounded := fun_mk (st := s_is_bounded) lf_is_bounded cf_is_bounded kf_is_bounded
  have bf_is_bounded := Ff_is_bounded.binds (ps := ["number"]) fun _ _ _ _ _ _ us hl => match us, hl with | [_], _ => rfl
  have glf_is_bounded := PySem.W.mg_of X G af_is_bounded
  have Ff_checked_integer := fun_mk (st := s_checked_integer) lf_checked_integer cf_checked_integer kf_checked_integer
  have bf_checked_integer := Ff_checked_integer.binds (ps := ["number"]) fun _ _ _ _ _ _ us hl => match us, hl with | [_], _ => rfl
  have glf_checked_integer := PySem.W.mg_of X G af_checked_integer
  have Ff_unary := fun_mk (st := s_unary) lf_unary cf_unary kf_unary
  have bf_unary := Ff_unary.binds (ps := ["store", "operator", "x"]) fun _ _ _ _ _ _ us hl => match us, hl with | [_, _, _], _ => rfl
  have glf_unary := PySem.W.mg_of X G af_unary
  have Ff_binary := fun_mk (st := s_binary) lf_binary cf_binary kf_binary
  have bf_binary := Ff_binary.binds (ps := ["store", "operator", "x", "y"]) fun _ _ _ _ _ _ us hl => match us, hl with | [_, _, _, _], _ => rfl
  have glf_binary := PySem.W.mg_of X G af_binary
  have Ff_is_instance := fun_mk (st := s_is_instance) lf_is_instance cf_is_instance kf_is_instance
  have bf_is_instance := Ff_is_instance.binds (ps := ["store", "x", "y"]) fun _ _ _ _ _ _ us hl => match us, hl with | [_, _, _], _ => rfl
  have glf_is_instance := PySem.W.mg_of X G af_is_instance
  have Ff_kinds_of := fun_mk (st := s_kinds_of) lf_kinds_of cf_kinds_of kf_kinds_of
  have bf_kinds_of := Ff_kinds_of.binds (ps := ["store", "x", "y"]) fun _ _ _ _ _ _ us hl => match us, hl with | [_, _, _], _ => rfl
  have glf_kinds_of := PySem.W.mg_of X G af_kinds_of
  have Ff_refuse_operands := fun_mk (st := s_refuse_operands) lf_refuse_operands cf_refuse_operands kf_refuse_operands
  have bf_refuse_operands := Ff_refuse_operands.binds (ps := ["verb", "kinds"]) fun _ _ _ _ _ _ us hl => match us, hl with | [_, _], _ => rfl
  have glf_refuse_operands := PySem.W.mg_of X G af_refuse_operands
  have Ff_add := fun_mk (st := s_add) lf_add cf_add kf_add
  have bf_add := Ff_add.binds (ps := ["store", "x", "y"]) fun _ _ _ _ _ _ us hl => match us, hl with | [_, _, _], _ => rfl
  have glf_add := PySem.W.mg_of X G af_add
  have Ff_compare := fun_mk (st := s_compare) lf_compare cf_compare kf_compare
  have bf_compare := Ff_compare.binds (ps := ["store", "operator", "x", "y"]) fun _ _ _ _ _ _ us hl => match us, hl with | [_, _, _, _], _ => rfl
  have glf_compare := PySem.W.mg_of X G af_compare
  have Ff_calculate := fun_mk (st := s_calculate) lf_calculate cf_calculate kf_calculate
  have bf_calculate := Ff_calculate.binds (ps := ["store", "operator", "x", "y"]) fun _ _ _ _ _ _ us hl => match us, hl with | [_, _, _, _], _ => rfl
  have glf_calculate := PySem.W.mg_of X G af_calculate
  have Ff_check_key := fun_mk (st := s_check_key) lf_check_key cf_check_key kf_check_key
  have bf_check_key := Ff_check_key.binds (ps := ["key"]) fun _ _ _ _ _ _ us hl => match us, hl with | [_], _ => rfl
  have glf_check_key := PySem.W.mg_of X G af_check_key
  have Ff_put_entry := fun_mk (st := s_put_entry) lf_put_entry cf_put_entry kf_put_entry
  have bf_put_entry := Ff_put_entry.binds (ps := ["table", "key", "value"]) fun _ _ _ _ _ _ us hl => match us, hl with | [_, _, _], _ => rfl
  have glf_put_entry := PySem.W.mg_of X G af_put_entry
  have Ff_make_list := fun_mk (st := s_make_list) lf_make_list cf_make_list kf_make_list
  have bf_make_list := Ff_make_list.binds (ps := ["store", "values"]) fun _ _ _ _ _ _ us hl => match us, hl with | [_, _], _ => rfl
  have glf_make_list := PySem.W.mg_of X G af_make_list
  have Ff_make_map := fun_mk (st := s_make_map) lf_make_map cf_make_map kf_make_map
  have bf_make_map := Ff_make_map.binds (ps := ["store", "pairs"]) fun _ _ _ _ _ _ us hl => match us, hl with | [_, _], _ => rfl
  have glf_make_map := PySem.W.mg_of X G af_make_map
  have Ff_make_class := fun_mk (st := s_make_class) lf_make_class cf_make_class kf_make_class
  have bf_make_class := Ff_make_class.binds (ps := ["store", "name", "parent"]) fun _ _ _ _ _ _ us hl => match us, hl with | [_, _, _], _ => rfl
  have glf_make_class := PySem.W.mg_of X G af_make_class
  have Ff_law_cell := fun_mk (st := s_law_cell) lf_law_cell cf_law_cell kf_law_cell
  have bf_law_cell := Ff_law_cell.binds (ps := ["script", "k"]) fun _ _ _ _ _ _ us hl => match us, hl with | [_, _], _ => rfl
  have glf_law_cell := PySem.W.mg_of X G af_law_cell
  have Ff_law_is_integer := fun_mk (st := s_law_is_integer) lf_law_is_integer cf_law_is_integer kf_law_is_integer
  have bf_law_is_integer := Ff_law_is_integer.binds (ps := ["told"]) fun _ _ _ _ _ _ us hl => match us, hl with | [_], _ => rfl
  have glf_law_is_integer := PySem.W.mg_of X G af_law_is_integer
  have Ff_law_begin := fun_mk (st := s_law_begin) lf_law_begin cf_law_begin kf_law_begin
  have bf_law_begin := Ff_law_begin.binds (ps := ["script", "k"]) fun _ _ _ _ _ _ us hl => match us, hl with | [_, _], _ => rfl
  have glf_law_begin := PySem.W.mg_of X G af_law_begin
  have Ff_law_draw := fun_mk (st := s_law_draw) lf_law_draw cf_law_draw kf_law_draw
  have bf_law_draw := Ff_law_draw.binds (ps := ["state", "many"]) fun _ _ _ _ _ _ us hl => match us, hl with | [_, _], _ => rfl
  have glf_law_draw := PySem.W.mg_of X G af_law_draw
  have Ff_law_pick := fun_mk (st := s_law_pick) lf_law_pick cf_law_pick kf_law_pick
  have bf_law_pick := Ff_law_pick.binds (ps := ["state", "row"]) fun _ _ _ _ _ _ us hl => match us, hl with | [_, _], _ => rfl
  have glf_law_pick := PySem.W.mg_of X G af_law_pick
  have Ff_law_text := fun_mk (st := s_law_text) lf_law_text cf_law_text kf_law_text
  have bf_law_text := Ff_law_text.binds (ps := ["state"]) fun _ _ _ _ _ _ us hl => match us, hl with | [_], _ => rfl
  have glf_law_text := PySem.W.mg_of X G af_law_text
  have Ff_law_store := fun_mk (st := s_law_store) lf_law_store cf_law_store kf_law_store
  have bf_law_store := Ff_law_store.binds (ps := ["state"]) fun _ _ _ _ _ _ us hl => match us, hl with | [_], _ => rfl
  have glf_law_store := PySem.W.mg_of X G af_law_store
  have Ff_law_value := fun_mk (st := s_law_value) lf_law_value cf_law_value kf_law_value
  have bf_law_value := Ff_law_value.binds (ps := ["state", "store"]) fun _ _ _ _ _ _ us hl => match us, hl with | [_, _], _ => rfl
  have glf_law_value := PySem.W.mg_of X G af_law_value
  have Ff_law_kind := fun_mk (st := s_law_kind) lf_law_kind cf_law_kind kf_law_kind
  have bf_law_kind := Ff_law_kind.binds (ps := ["store", "value"]) fun _ _ _ _ _ _ us hl => match us, hl with | [_, _], _ => rfl
  have glf_law_kind := PySem.W.mg_of X G af_law_kind
  have Ff_law_told := fun_mk (st := s_law_told) lf_law_told cf_law_told kf_law_told
  have bf_law_told := Ff_law_told.binds (ps := ["store", "operator", "x", "y"]) fun _ _ _ _ _ _ us hl => match us, hl with | [_, _, _, _], _ => rfl
  have glf_law_told := PySem.W.mg_of X G af_law_told
  have Ff_law_added := fun_mk (st := s_law_added) lf_law_added cf_law_added kf_law_added
  have bf_law_added := Ff_law_added.binds (ps := ["store", "x", "y", "told", "many"]) fun _ _ _ _ _ _ us hl => match us, hl with | [_, _, _, _, _], _ => rfl
  have glf_law_added := PySem.W.mg_of X G af_law_added
  have Ff_law_compared := fun_mk (st := s_law_compared) lf_law_compared cf_law_compared kf_law_compared
  have bf_law_compared := Ff_law_compared.binds (ps := ["operator", "x", "y"]) fun _ _ _ _ _ _ us hl => match us, hl with | [_, _, _], _ => rfl
  have glf_law_compared := PySem.W.mg_of X G af_law_compared
  have Ff_law_is := fun_mk (st := s_law_is) lf_law_is cf_law_is kf_law_is
  have bf_law_is := Ff_law_is.binds (ps := ["store", "above", "x", "y", "told"]) fun _ _ _ _ _ _ us hl => match us, hl with | [_, _, _, _, _], _ => rfl
  have glf_law_is := PySem.W.mg_of X G af_law_is
  have Ff_law_negated := fun_mk (st := s_law_negated) lf_law_negated cf_law_negated kf_law_negated
  have bf_law_negated := Ff_law_negated.binds (ps := ["store", "x"]) fun _ _ _ _ _ _ us hl => match us, hl with | [_, _], _ => rfl
  have glf_law_negated := PySem.W.mg_of X G af_law_negated
  have Flaw := fun_mk (st := s_law) llaw claw klaw
  have gllaw := PySem.W.mg_of X G alaw
  have Ff_Ref_init := fun_mk (st := s_Ref_init) lf_Ref_init cf_Ref_init kf_Ref_init
  have bf_Ref_init := Ff_Ref_init.binds (ps := ["self", "number"]) fun _ _ _ _ _ _ us hl => match us, hl with | [_, _], _ => rfl
  have Kf_Ref_init : Mk K cRef a_Ref_init := ⟨mkRef, af_Ref_init, if_Ref_init, kcRef⟩
  have Ff_Ref_eq := fun_mk (st := s_Ref_eq) lf_Ref_eq cf_Ref_eq kf_Ref_eq
  have bf_Ref_eq := Ff_Ref_eq.binds (ps := ["self", "other"]) fun _ _ _ _ _ _ us hl => match us, hl with | [_, _], _ => rfl
  have Mf_Ref_eq : Meth K cRef "__eq__" a_Ref_eq := ⟨af_Ref_eq, if_Ref_eq, kf_Ref_eq⟩
  have Ff_Builtin_init := fun_mk (st := s_Builtin_init) lf_Builtin_init cf_Builtin_init kf_Builtin_init
  have bf_Builtin_init := Ff_Builtin_init.binds (ps := ["self", "name"]) fun _ _ _ _ _ _ us hl => match us, hl with | [_, _], _ => rfl
  have Kf_Builtin_init : Mk K cBuiltin a_Builtin_init := ⟨mkBuiltin, af_Builtin_init, if_Builtin_init, kcBuiltin⟩
  have Ff_Builtin_eq := fun_mk (st := s_Builtin_eq) lf_Builtin_eq cf_Builtin_eq kf_Builtin_eq
  have bf_Builtin_eq := Ff_Builtin_eq.binds (ps := ["self", "other"]) fun _ _ _ _ _ _ us hl => match us, hl with | [_, _], _ => rfl
  have Mf_Builtin_eq : Meth K cBuiltin "__eq__" a_Builtin_eq := ⟨af_Builtin_eq, if_Builtin_eq, kf_Builtin_eq⟩
  have Ff_Parts_init := fun_mk (st := s_Parts_init) lf_Parts_init cf_Parts_init kf_Parts_init
  have bf_Parts_init := Ff_Parts_init.binds (ps := ["self", "held"]) fun _ _ _ _ _ _ us hl => match us, hl with | [_, _], _ => rfl
  have Kf_Parts_init : Mk K cParts a_Parts_init := ⟨mkParts, af_Parts_init, if_Parts_init, kcParts⟩
  have Ff_Table_init := fun_mk (st := s_Table_init) lf_Table_init cf_Table_init kf_Table_init
  have bf_Table_init := Ff_Table_init.binds (ps := ["self"]) fun _ _ _ _ _ _ us hl => match us, hl with | [_], _ => rfl
  have Kf_Table_init : Mk K cTable a_Table_init := ⟨mkTable, af_Table_init, if_Table_init, kcTable⟩
  have Ff_Table_has := fun_mk (st := s_Table_has) lf_Table_has cf_Table_has kf_Table_has
  have bf_Table_has := Ff_Table_has.binds (ps := ["self", "key"]) fun _ _ _ _ _ _ us hl => match us, hl with | [_, _], _ => rfl
  have Mf_Table_has : Meth K cTable "has" a_Table_has := ⟨af_Table_has, if_Table_has, kf_Table_has⟩
  have Ff_Table_put := fun_mk (st := s_Table_put) lf_Table_put cf_Table_put kf_Table_put
  have bf_Table_put := Ff_Table_put.binds (ps := ["self", "key", "value"]) fun _ _ _ _ _ _ us hl => match us, hl with | [_, _, _], _ => rfl
  have Mf_Table_put : Meth K cTable "put" a_Table_put := ⟨af_Table_put, if_Table_put, kf_Table_put⟩
  have Ff_Table_pairs := fun_mk (st := s_Table_pairs) lf_Table_pairs cf_Table_pairs kf_Table_pairs
  have bf_Table_pairs := Ff_Table_pairs.binds (ps := ["self"]) fun _ _ _ _ _ _ us hl => match us, hl with | [_], _ => rfl
  have Mf_Table_pairs : Meth K cTable "pairs" a_Table_pairs := ⟨af_Table_pairs, if_Table_pairs, kf_Table_pairs⟩
  have Ff_Table_many := fun_mk (st := s_Table_many) lf_Table_many cf_Table_many kf_Table_many
  have bf_Table_many := Ff_Table_many.binds (ps := ["self"]) fun _ _ _ _ _ _ us hl => match us, hl with | [_], _ => rfl
  have Pf_Table_many : PropOf K cTable "many" p_Table_many a_Table_many := ⟨af_Table_many, pgtf_Table_many, ptkf_Table_many, _, prcf_Table_many⟩
  have Ff_Instance_init := fun_mk (st := s_Instance_init) lf_Instance_init cf_Instance_init kf_Instance_init
  have bf_Instance_init := Ff_Instance_init.binds (ps := ["self", "owner"]) fun _ _ _ _ _ _ us hl => match us, hl with | [_, _], _ => rfl
  have Kf_Instance_init : Mk K cInstance a_Instance_init := ⟨mkInstance, af_Instance_init, if_Instance_init, kcInstance⟩
  have Ff_Kin_init := fun_mk (st := s_Kin_init) lf_Kin_init cf_Kin_init kf_Kin_init
  have bf_Kin_init := Ff_Kin_init.binds (ps := ["self", "name", "parent"]) fun _ _ _ _ _ _ us hl => match us, hl with | [_, _, _], _ => rfl
  have Kf_Kin_init : Mk K cKin a_Kin_init := ⟨mkKin, af_Kin_init, if_Kin_init, kcKin⟩
  have Ff_Closure_init := fun_mk (st := s_Closure_init) lf_Closure_init cf_Closure_init kf_Closure_init
  have bf_Closure_init := Ff_Closure_init.binds (ps := ["self", "number", "wanted", "scope"]) fun _ _ _ _ _ _ us hl => match us, hl with | [_, _, _, _], _ => rfl
  have Kf_Closure_init : Mk K cClosure a_Closure_init := ⟨mkClosure, af_Closure_init, if_Closure_init, kcClosure⟩
  have Ff_Store_init := fun_mk (st := s_Store_init) lf_Store_init cf_Store_init kf_Store_init
  have bf_Store_init := Ff_Store_init.binds (ps := ["self", "lines"]) fun _ _ _ _ _ _ us hl => match us, hl with | [_, _], _ => rfl
  have Kf_Store_init : Mk K cStore a_Store_init := ⟨mkStore, af_Store_init, if_Store_init, kcStore⟩
  have Ff_Store_make := fun_mk (st := s_Store_make) lf_Store_make cf_Store_make kf_Store_make
  have bf_Store_make := Ff_Store_make.binds (ps := ["self", "thing"]) fun _ _ _ _ _ _ us hl => match us, hl with | [_, _], _ => rfl
  have Mf_Store_make : Meth K cStore "make" a_Store_make := ⟨af_Store_make, if_Store_make, kf_Store_make⟩
  have Ff_Store_at := fun_mk (st := s_Store_at) lf_Store_at cf_Store_at kf_Store_at
  have bf_Store_at := Ff_Store_at.binds (ps := ["self", "ref"]) fun _ _ _ _ _ _ us hl => match us, hl with | [_, _], _ => rfl
  have Mf_Store_at : Meth K cStore "at" a_Store_at := ⟨af_Store_at, if_Store_at, kf_Store_at⟩
  have ciMOST_HELD : ∃ t, mg "MOST_HELD" = some (.int 1000 t) := ⟨_, PySem.W.mg_of X G qMOST_HELD⟩
  have ciDOUBTFUL_BITS : ∃ t, mg "DOUBTFUL_BITS" = some (.int 997 t) := ⟨_, PySem.W.mg_of X G qDOUBTFUL_BITS⟩
  have tuORDERS : ∀ H, SqT K H aORDERS [.str "<", .str "<=", .str ">", .str ">="] := fun H => .inr ⟨_, _, _, ltORDERS, rfl, rfl, stORDERS, vtORDERS⟩
  have DVERBS : Dx K w mg "VERBS" verbS := ⟨_, PySem.W.mg_of X G udVERBS, fun p hp => by
    simp only [verbS, List.mem_cons, List.not_mem_nil, or_false] at hp
    rcases hp with rfl | rfl | rfl | rfl
    · exact ⟨_, _, _, ldVERBS, kdVERBS, ndVERBS0, _, rfl⟩
    · exact ⟨_, _, _, ldVERBS, kdVERBS, ndVERBS1, _, rfl⟩
    · exact ⟨_, _, _, ldVERBS, kdVERBS, ndVERBS2, _, rfl⟩
    · exact ⟨_, _, _, ldVERBS, kdVERBS, ndVERBS3, _, rfl⟩⟩
  have L : Lib l.prog K mg ⟨cRef, cBuiltin, cParts, cTable, cInstance, cKin, cClosure, cStore, cLivequillError, cScriptError⟩ := ⟨PySem.W.mg_none_of X G zrange, PySem.W.mg_none_of X G zlen, PySem.W.mg_none_of X G zint, PySem.W.mg_none_of X G zstr, PySem.W.mg_none_of X G zbool, PySem.W.mg_none_of X G zisinstance, PySem.W.mg_none_of X G zlist, PySem.W.mg_none_of X G zabs, PySem.W.mg_none_of X G zmin, PySem.W.mg_none_of X G zmax, ⟨KlRef, PySem.W.mg_of X G uRef, tyRef⟩, nRef_number, ⟨KlBuiltin, PySem.W.mg_of X G uBuiltin, tyBuiltin⟩, nBuiltin_name, ⟨KlParts, PySem.W.mg_of X G uParts, tyParts⟩, nParts_held, ⟨KlTable, PySem.W.mg_of X G uTable, tyTable⟩, nTable__entries, ⟨KlInstance, PySem.W.mg_of X G uInstance, tyInstance⟩, nInstance_owner, nInstance_named, ⟨KlKin, PySem.W.mg_of X G uKin, tyKin⟩, nKin_name, nKin_parent, nKin_methods, ⟨KlClosure, PySem.W.mg_of X G uClosure, tyClosure⟩, nClosure_number, nClosure_wanted, nClosure_scope, ⟨KlStore, PySem.W.mg_of X G uStore, tyStore⟩, nStore_things, nStore_output, nStore_lines, nStore_taken, ⟨PySem.W.mg_of X G uLivequillError⟩, ⟨_, _, TScriptError, fun _ _ => ok_SE liScriptError ciScriptError TScriptError UScriptError, bScriptError, PySem.W.mg_of X G uScriptError, ecScriptError⟩, klScriptErrorLivequillError, k_Ref_Parts, k_Ref_Table, k_Ref_Instance, k_Ref_Kin, k_Ref_Builtin, k_Ref_bool, k_Ref_int, k_Ref_str, k_Builtin_Ref, k_Builtin_Parts, k_Builtin_Table, k_Builtin_Instance, k_Builtin_Kin, k_Builtin_bool, k_Builtin_int, k_Builtin_str, k_Parts_Ref, k_Parts_Table, k_Parts_Instance, k_Parts_Kin, k_Parts_Builtin, k_Parts_bool, k_Parts_int, k_Parts_str, k_Table_Ref, k_Table_Parts, k_Table_Instance, k_Table_Kin, k_Table_Builtin, k_Table_bool, k_Table_int, k_Table_str, k_Instance_Ref, k_Instance_Parts, k_Instance_Table, k_Instance_Kin, k_Instance_Builtin, k_Instance_bool, k_Instance_int, k_Instance_str, k_Kin_Ref, k_Kin_Parts, k_Kin_Table, k_Kin_Instance, k_Kin_Builtin, k_Kin_bool, k_Kin_int, k_Kin_str, k_Closure_Ref, k_Closure_Parts, k_Closure_Table, k_Closure_Instance, k_Closure_Kin, k_Closure_Builtin, k_Closure_bool, k_Closure_int, k_Closure_str, k_Store_Ref, k_Store_Parts, k_Store_Table, k_Store_Instance, k_Store_Kin, k_Store_Builtin, k_Store_bool, k_Store_int, k_Store_str, k_NoneType_Ref, k_NoneType_Parts, k_NoneType_Table, k_NoneType_Instance, k_NoneType_Kin, k_NoneType_Builtin, k_bool_Ref, k_bool_Parts, k_bool_Table, k_bool_Instance, k_bool_Kin, k_bool_Builtin, k_int_Ref, k_int_Parts, k_int_Table, k_int_Instance, k_int_Kin, k_int_Builtin, k_str_Ref, k_str_Parts, k_str_Table, k_str_Instance, k_str_Kin, k_str_Builtin, k_tuple_Ref, k_tuple_Parts, k_tuple_Table, k_tuple_Instance, k_tuple_Kin, k_tuple_Builtin, k_list_Ref, k_list_Parts, k_list_Table, k_list_Instance, k_list_Kin, k_list_Builtin, nf_Ref_NoneType, su_Ref_NoneType, nf_Ref_int, su_Ref_int, nf_Ref_str, su_Ref_str, nf_Ref_tuple, su_Ref_tuple, nf_Ref_list, su_Ref_list, nf_Ref_Builtin, nf_Ref_Parts, nf_Ref_Table, nf_Ref_Instance, nf_Ref_Kin, nf_Ref_Closure, nf_Ref_Store, nf_Builtin_NoneType, su_Builtin_NoneType, nf_Builtin_int, su_Builtin_int, nf_Builtin_str, su_Builtin_str, nf_Builtin_tuple, su_Builtin_tuple, nf_Builtin_list, su_Builtin_list, nf_Builtin_Ref, nf_Builtin_Parts, nf_Builtin_Table, nf_Builtin_Instance, nf_Builtin_Kin, nf_Builtin_Closure, nf_Builtin_Store, ciMOST_HELD, ciDOUBTFUL_BITS, ⟨_, PySem.W.mg_of X G utORDERS, tuORDERS⟩, ⟨_, _, Ff_tagged, bf_tagged, glf_tagged⟩, ⟨_, _, Ff_kind_of, bf_kind_of, glf_kind_of⟩, ⟨_, _, Ff_kind_of_thing, bf_kind_of_thing, glf_kind_of_thing⟩, ⟨_, _, Ff_is_true, bf_is_true, glf_is_true⟩, ⟨_, _, Ff_equal, bf_equal, glf_equal⟩, ⟨_, _, Ff_is_key, bf_is_key, glf_is_key⟩, ⟨_, _, Ff_is_below, bf_is_below, glf_is_below⟩, ⟨_, _, Ff_check_size, bf_check_size, glf_check_size⟩, ⟨_, _, Ff_is_bounded, bf_is_bounded, glf_is_bounded⟩, ⟨_, _, Ff_checked_integer, bf_checked_integer, glf_checked_integer⟩, ⟨_, _, Ff_unary, bf_unary, glf_unary⟩, ⟨_, _, Ff_binary, bf_binary, glf_binary⟩, ⟨_, _, Ff_is_instance, bf_is_instance, glf_is_instance⟩, ⟨_, _, Ff_kinds_of, bf_kinds_of, glf_kinds_of⟩, ⟨_, _, Ff_refuse_operands, bf_refuse_operands, glf_refuse_operands⟩, ⟨_, _, Ff_add, bf_add, glf_add⟩, ⟨_, _, Ff_compare, bf_compare, glf_compare⟩, ⟨_, _, Ff_calculate, bf_calculate, glf_calculate⟩, ⟨_, _, Ff_check_key, bf_check_key, glf_check_key⟩, ⟨_, _, Ff_put_entry, bf_put_entry, glf_put_entry⟩, ⟨_, _, Ff_make_list, bf_make_list, glf_make_list⟩, ⟨_, _, Ff_make_map, bf_make_map, glf_make_map⟩, ⟨_, _, Ff_make_class, bf_make_class, glf_make_class⟩, ⟨_, _, Ff_law_cell, bf_law_cell, glf_law_cell⟩, ⟨_, _, Ff_law_is_integer, bf_law_is_integer, glf_law_is_integer⟩, ⟨_, _, Ff_law_begin, bf_law_begin, glf_law_begin⟩, ⟨_, _, Ff_law_draw, bf_law_draw, glf_law_draw⟩, ⟨_, _, Ff_law_pick, bf_law_pick, glf_law_pick⟩, ⟨_, _, Ff_law_text, bf_law_text, glf_law_text⟩, ⟨_, _, Ff_law_store, bf_law_store, glf_law_store⟩, ⟨_, _, Ff_law_value, bf_law_value, glf_law_value⟩, ⟨_, _, Ff_law_kind, bf_law_kind, glf_law_kind⟩, ⟨_, _, Ff_law_told, bf_law_told, glf_law_told⟩, ⟨_, _, Ff_law_added, bf_law_added, glf_law_added⟩, ⟨_, _, Ff_law_compared, bf_law_compared, glf_law_compared⟩, ⟨_, _, Ff_law_is, bf_law_is, glf_law_is⟩, ⟨_, _, Ff_law_negated, bf_law_negated, glf_law_negated⟩, ⟨_, _, Ff_Ref_init, bf_Ref_init, Kf_Ref_init⟩, ⟨_, _, Ff_Ref_eq, bf_Ref_eq, ⟨af_Ref_eq, if_Ref_eq⟩⟩, ⟨_, _, Ff_Builtin_init, bf_Builtin_init, Kf_Builtin_init⟩, ⟨_, _, Ff_Builtin_eq, bf_Builtin_eq, ⟨af_Builtin_eq, if_Builtin_eq⟩⟩, ⟨_, _, Ff_Parts_init, bf_Parts_init, Kf_Parts_init⟩, ⟨_, _, Ff_Table_init, bf_Table_init, Kf_Table_init⟩, ⟨_, _, Ff_Table_has, bf_Table_has, Mf_Table_has⟩, ⟨_, _, Ff_Table_put, bf_Table_put, Mf_Table_put⟩, ⟨_, _, Ff_Table_pairs, bf_Table_pairs, Mf_Table_pairs⟩, ⟨_, _, _, Ff_Table_many, bf_Table_many, Pf_Table_many⟩, ⟨_, _, Ff_Instance_init, bf_Instance_init, Kf_Instance_init⟩, ⟨_, _, Ff_Kin_init, bf_Kin_init, Kf_Kin_init⟩, ⟨_, _, Ff_Closure_init, bf_Closure_init, Kf_Closure_init⟩, ⟨_, _, Ff_Store_init, bf_Store_init, Kf_Store_init⟩, ⟨_, _, Ff_Store_make, bf_Store_make, Mf_Store_make⟩, ⟨_, _, Ff_Store_at, bf_Store_at, Mf_Store_at⟩⟩
  exact ⟨PySem.W.fnOf "law" "law" (defArgs s_law) (defBody s_law) (defScope s_law) .none kVlaw dclaw pmlaw anlaw cdlaw ctlaw, fun s v => .of_eq rfl, fun base _ _ => ok_law Flaw L DVERBS⟩
end My
open PySem PySem.W PyProof.Rows
set_option maxRecDepth 100000 in
set_option maxHeartbeats 0 in
theorem PySem.Challenge.cw_livequill_k18_operators_of_other_kinds_holds : PySem.Challenge.rw_livequill_k18_operators_of_other_kinds.Holds := by
  w_on; o_law; k_head; (case hw => w_witness2)
  k_fill
  refine L2.walk_of (l := PySem.Challenge.rw_livequill_k18_operators_of_other_kinds) (n := 63) (k := 12) (x := "script") (CX := fun _ => L2.CX0) (sp := fun w => My.spLaw _) rfl (by decide) rfl ⟨rfl, by decide, by decide⟩ (fun w h Y => PySem.W.kIn_of Y) ?F (fun _ _ a ns hl _ hS => ⟨a, ns, rfl, hS, hl, fun _ => rfl⟩) (fun _ _ _ _ _ h => h)
  case F =>
    intro w mg fa h KX G hmg
    refine' My.all_mk KX G hmg ?uRef ?mkRef ?kcRef ?pgRef ?hdRef ?poRef ?saRef ?nRef_number ?hnTy ?htTy ?haRef ?hmRef ?uBuiltin ?mkBuiltin ?kcBuiltin ?pgBuiltin ?hdBuiltin ?poBuiltin ?saBuiltin ?nBuiltin_name ?haBuiltin ?hmBuiltin ?uParts ?mkParts ?kcParts ?pgParts ?hdParts ?poParts ?saParts ?nParts_held ?haParts ?hmParts ?uTable ?mkTable ?kcTable ?pgTable ?hdTable ?poTable ?saTable ?nTable__entries ?haTable ?hmTable ?uInstance ?mkInstance ?kcInstance ?pgInstance ?hdInstance ?poInstance ?saInstance ?nInstance_owner ?nInstance_named ?haInstance ?hmInstance ?uKin ?mkKin ?kcKin ?pgKin ?hdKin ?poKin ?saKin ?nKin_name ?nKin_parent ?nKin_methods ?haKin ?hmKin ?uClosure ?mkClosure ?kcClosure ?pgClosure ?hdClosure ?poClosure ?saClosure ?nClosure_number ?nClosure_wanted ?nClosure_scope ?haClosure ?hmClosure ?uStore ?mkStore ?kcStore ?pgStore ?hdStore ?poStore ?saStore ?nStore_things ?nStore_output ?nStore_lines ?nStore_taken ?haStore ?hmStore ?uLivequillError ?uScriptError ?xScriptError ?saScriptError ?exScriptError ?tpScriptError ?kpScriptError ?n1ScriptError ?n2ScriptError ?iScriptError ?tiScriptError ?gaScriptError ?ggScriptError ?hdScriptError ?ssScriptError ?liScriptError ?ciScriptError ?coScriptError ?cvScriptError ?fiScriptError ?ceScriptError ?toSup ?suSup ?opSup ?mrScriptError ?ksScriptError ?vaScriptError ?haScriptError ?hmScriptError ?klScriptErrorLivequillError ?af_tagged ?lf_tagged ?cf_tagged ?kf_tagged ?af_kind_of ?lf_kind_of ?cf_kind_of ?kf_kind_of ?af_kind_of_thing ?lf_kind_of_thing ?cf_kind_of_thing ?kf_kind_of_thing ?af_is_true ?lf_is_true ?cf_is_true ?kf_is_true ?af_equal ?lf_equal ?cf_equal ?kf_equal ?af_is_key ?lf_is_key ?cf_is_key ?kf_is_key ?af_is_below ?lf_is_below ?cf_is_below ?kf_is_below ?af_check_size ?lf_check_size ?cf_check_size ?kf_check_size ?af_is_bounded ?lf_is_bounded ?cf_is_bounded ?kf_is_bounded ?af_checked_integer ?lf_checked_integer ?cf_checked_integer ?kf_checked_integer ?af_unary ?lf_unary ?cf_unary ?kf_unary ?af_binary ?lf_binary ?cf_binary ?kf_binary ?af_is_instance ?lf_is_instance ?cf_is_instance ?kf_is_instance ?af_kinds_of ?lf_kinds_of ?cf_kinds_of ?kf_kinds_of ?af_refuse_operands ?lf_refuse_operands ?cf_refuse_operands ?kf_refuse_operands ?af_add ?lf_add ?cf_add ?kf_add ?af_compare ?lf_compare ?cf_compare ?kf_compare ?af_calculate ?lf_calculate ?cf_calculate ?kf_calculate ?af_check_key ?lf_check_key ?cf_check_key ?kf_check_key ?af_put_entry ?lf_put_entry ?cf_put_entry ?kf_put_entry ?af_make_list ?lf_make_list ?cf_make_list ?kf_make_list ?af_make_map ?lf_make_map ?cf_make_map ?kf_make_map ?af_make_class ?lf_make_class ?cf_make_class ?kf_make_class ?af_law_cell ?lf_law_cell ?cf_law_cell ?kf_law_cell ?af_law_is_integer ?lf_law_is_integer ?cf_law_is_integer ?kf_law_is_integer ?af_law_begin ?lf_law_begin ?cf_law_begin ?kf_law_begin ?af_law_draw ?lf_law_draw ?cf_law_draw ?kf_law_draw ?af_law_pick ?lf_law_pick ?cf_law_pick ?kf_law_pick ?af_law_text ?lf_law_text ?cf_law_text ?kf_law_text ?af_law_store ?lf_law_store ?cf_law_store ?kf_law_store ?af_law_value ?lf_law_value ?cf_law_value ?kf_law_value ?af_law_kind ?lf_law_kind ?cf_law_kind ?kf_law_kind ?af_law_told ?lf_law_told ?cf_law_told ?kf_law_told ?af_law_added ?lf_law_added ?cf_law_added ?kf_law_added ?af_law_compared ?lf_law_compared ?cf_law_compared ?kf_law_compared ?af_law_is ?lf_law_is ?cf_law_is ?kf_law_is ?af_law_negated ?lf_law_negated ?cf_law_negated ?kf_law_negated ?alaw ?llaw ?claw ?klaw ?af_Ref_init ?if_Ref_init ?lf_Ref_init ?cf_Ref_init ?kf_Ref_init ?af_Ref_eq ?if_Ref_eq ?lf_Ref_eq ?cf_Ref_eq ?kf_Ref_eq ?af_Builtin_init ?if_Builtin_init ?lf_Builtin_init ?cf_Builtin_init ?kf_Builtin_init ?af_Builtin_eq ?if_Builtin_eq ?lf_Builtin_eq ?cf_Builtin_eq ?kf_Builtin_eq ?af_Parts_init ?if_Parts_init ?lf_Parts_init ?cf_Parts_init ?kf_Parts_init ?af_Table_init ?if_Table_init ?lf_Table_init ?cf_Table_init ?kf_Table_init ?af_Table_has ?if_Table_has ?lf_Table_has ?cf_Table_has ?kf_Table_has ?af_Table_put ?if_Table_put ?lf_Table_put ?cf_Table_put ?kf_Table_put ?af_Table_pairs ?if_Table_pairs ?lf_Table_pairs ?cf_Table_pairs ?kf_Table_pairs ?af_Table_many ?pgtf_Table_many ?ptkf_Table_many ?prcf_Table_many ?lf_Table_many ?cf_Table_many ?kf_Table_many ?af_Instance_init ?if_Instance_init ?lf_Instance_init ?cf_Instance_init ?kf_Instance_init ?af_Kin_init ?if_Kin_init ?lf_Kin_init ?cf_Kin_init ?kf_Kin_init ?af_Closure_init ?if_Closure_init ?lf_Closure_init ?cf_Closure_init ?kf_Closure_init ?af_Store_init ?if_Store_init ?lf_Store_init ?cf_Store_init ?kf_Store_init ?af_Store_make ?if_Store_make ?lf_Store_make ?cf_Store_make ?kf_Store_make ?af_Store_at ?if_Store_at ?lf_Store_at ?cf_Store_at ?kf_Store_at ?qMOST_HELD ?qDOUBTFUL_BITS ?utORDERS ?ltORDERS ?vtORDERS ?stORDERS ?k_Ref_Parts ?k_Ref_Table ?k_Ref_Instance ?k_Ref_Kin ?k_Ref_Builtin ?k_Ref_bool ?k_Ref_int ?k_Ref_str ?k_Builtin_Ref ?k_Builtin_Parts ?k_Builtin_Table ?k_Builtin_Instance ?k_Builtin_Kin ?k_Builtin_bool ?k_Builtin_int ?k_Builtin_str ?k_Parts_Ref ?k_Parts_Table ?k_Parts_Instance ?k_Parts_Kin ?k_Parts_Builtin ?k_Parts_bool ?k_Parts_int ?k_Parts_str ?k_Table_Ref ?k_Table_Parts ?k_Table_Instance ?k_Table_Kin ?k_Table_Builtin ?k_Table_bool ?k_Table_int ?k_Table_str ?k_Instance_Ref ?k_Instance_Parts ?k_Instance_Table ?k_Instance_Kin ?k_Instance_Builtin ?k_Instance_bool ?k_Instance_int ?k_Instance_str ?k_Kin_Ref ?k_Kin_Parts ?k_Kin_Table ?k_Kin_Instance ?k_Kin_Builtin ?k_Kin_bool ?k_Kin_int ?k_Kin_str ?k_Closure_Ref ?k_Closure_Parts ?k_Closure_Table ?k_Closure_Instance ?k_Closure_Kin ?k_Closure_Builtin ?k_Closure_bool ?k_Closure_int ?k_Closure_str ?k_Store_Ref ?k_Store_Parts ?k_Store_Table ?k_Store_Instance ?k_Store_Kin ?k_Store_Builtin ?k_Store_bool ?k_Store_int ?k_Store_str ?k_NoneType_Ref ?k_NoneType_Parts ?k_NoneType_Table ?k_NoneType_Instance ?k_NoneType_Kin ?k_NoneType_Builtin ?k_bool_Ref ?k_bool_Parts ?k_bool_Table ?k_bool_Instance ?k_bool_Kin ?k_bool_Builtin ?k_int_Ref ?k_int_Parts ?k_int_Table ?k_int_Instance ?k_int_Kin ?k_int_Builtin ?k_str_Ref ?k_str_Parts ?k_str_Table ?k_str_Instance ?k_str_Kin ?k_str_Builtin ?k_tuple_Ref ?k_tuple_Parts ?k_tuple_Table ?k_tuple_Instance ?k_tuple_Kin ?k_tuple_Builtin ?k_list_Ref ?k_list_Parts ?k_list_Table ?k_list_Instance ?k_list_Kin ?k_list_Builtin ?nf_Ref_NoneType ?su_Ref_NoneType ?nf_Ref_int ?su_Ref_int ?nf_Ref_str ?su_Ref_str ?nf_Ref_tuple ?su_Ref_tuple ?nf_Ref_list ?su_Ref_list ?nf_Ref_Builtin ?nf_Ref_Parts ?nf_Ref_Table ?nf_Ref_Instance ?nf_Ref_Kin ?nf_Ref_Closure ?nf_Ref_Store ?nf_Builtin_NoneType ?su_Builtin_NoneType ?nf_Builtin_int ?su_Builtin_int ?nf_Builtin_str ?su_Builtin_str ?nf_Builtin_tuple ?su_Builtin_tuple ?nf_Builtin_list ?su_Builtin_list ?nf_Builtin_Ref ?nf_Builtin_Parts ?nf_Builtin_Table ?nf_Builtin_Instance ?nf_Builtin_Kin ?nf_Builtin_Closure ?nf_Builtin_Store ?zrange ?zlen ?zint ?zstr ?zbool ?zisinstance ?zlist ?zabs ?zmin ?zmax ?udVERBS ?ldVERBS ?kdVERBS ?ndVERBS0 ?ndVERBS1 ?ndVERBS2 ?ndVERBS3
    (case uRef => k_is)
    (case mkRef => k_is)
    (case kcRef => k_is)
    (case pgRef => k_is)
    (case hdRef => k_is)
    (case poRef => k_is)
    (case saRef => k_is)
    (case nRef_number => k_is)
    (case hnTy => k_is)
    (case htTy => k_is)
    (case haRef => k_is)
    (case hmRef => k_is)
    (case uBuiltin => k_is)
    (case mkBuiltin => k_is)
    (case kcBuiltin => k_is)
    (case pgBuiltin => k_is)
    (case hdBuiltin => k_is)
    (case poBuiltin => k_is)
    (case saBuiltin => k_is)
    (case nBuiltin_name => k_is)
    (case haBuiltin => k_is)
    (case hmBuiltin => k_is)
    (case uParts => k_is)
    (case mkParts => k_is)
    (case kcParts => k_is)
    (case pgParts => k_is)
    (case hdParts => k_is)
    (case poParts => k_is)
    (case saParts => k_is)
    (case nParts_held => k_is)
    (case haParts => k_is)
    (case hmParts => k_is)
    (case uTable => k_is)
    (case mkTable => k_is)
    (case kcTable => k_is)
    (case pgTable => k_is)
    (case hdTable => k_is)
    (case poTable => k_is)
    (case saTable => k_is)
    (case nTable__entries => k_is)
    (case haTable => k_is)
    (case hmTable => k_is)
    (case uInstance => k_is)
    (case mkInstance => k_is)
    (case kcInstance => k_is)
    (case pgInstance => k_is)
    (case hdInstance => k_is)
    (case poInstance => k_is)
    (case saInstance => k_is)
    (case nInstance_owner => k_is)
    (case nInstance_named => k_is)
    (case haInstance => k_is)
    (case hmInstance => k_is)
    (case uKin => k_is)
    (case mkKin => k_is)
    (case kcKin => k_is)
    (case pgKin => k_is)
    (case hdKin => k_is)
    (case poKin => k_is)
    (case saKin => k_is)
    (case nKin_name => k_is)
    (case nKin_parent => k_is)
    (case nKin_methods => k_is)
    (case haKin => k_is)
    (case hmKin => k_is)
    (case uClosure => k_is)
    (case mkClosure => k_is)
    (case kcClosure => k_is)
    (case pgClosure => k_is)
    (case hdClosure => k_is)
    (case poClosure => k_is)
    (case saClosure => k_is)
    (case nClosure_number => k_is)
    (case nClosure_wanted => k_is)
    (case nClosure_scope => k_is)
    (case haClosure => k_is)
    (case hmClosure => k_is)
    (case uStore => k_is)
    (case mkStore => k_is)
    (case kcStore => k_is)
    (case pgStore => k_is)
    (case hdStore => k_is)
    (case poStore => k_is)
    (case saStore => k_is)
    (case nStore_things => k_is)
    (case nStore_output => k_is)
    (case nStore_lines => k_is)
    (case nStore_taken => k_is)
    (case haStore => k_is)
    (case hmStore => k_is)
    (case uLivequillError => k_is)
    (case uScriptError => k_is)
    (case xScriptError => k_is)
    (case saScriptError => k_is)
    (case exScriptError => k_is)
    (case tpScriptError => k_is)
    (case kpScriptError => k_is)
    (case n1ScriptError => k_is)
    (case n2ScriptError => k_is)
    (case iScriptError => k_is)
    (case tiScriptError => k_is)
    (case gaScriptError => k_is)
    (case ggScriptError => k_is)
    (case hdScriptError => k_is)
    (case ssScriptError => first | rfl | k_is)
    (case liScriptError => k_is)
    (case ciScriptError => k_is)
    (case coScriptError => k_is)
    (case cvScriptError => rfl)
    (case fiScriptError => first | rfl | decide +kernel)
    (case ceScriptError => k_is)
    (case toSup => first | rfl | decide +kernel)
    (case suSup => k_is)
    (case opSup => k_is)
    (case mrScriptError => k_is)
    (case ksScriptError => ks_is)
    (case vaScriptError => k_is)
    (case haScriptError => k_is)
    (case hmScriptError => k_is)
    (case klScriptErrorLivequillError => kit_is)
    (case af_tagged => k_is)
    (case lf_tagged => k_is)
    (case cf_tagged => k_is)
    (case kf_tagged => k_is)
    (case af_kind_of => k_is)
    (case lf_kind_of => k_is)
    (case cf_kind_of => k_is)
    (case kf_kind_of => k_is)
    (case af_kind_of_thing => k_is)
    (case lf_kind_of_thing => k_is)
    (case cf_kind_of_thing => k_is)
    (case kf_kind_of_thing => k_is)
    (case af_is_true => k_is)
    (case lf_is_true => k_is)
    (case cf_is_true => k_is)
    (case kf_is_true => k_is)
    (case af_equal => k_is)
    (case lf_equal => k_is)
    (case cf_equal => k_is)
    (case kf_equal => k_is)
    (case af_is_key => k_is)
    (case lf_is_key => k_is)
    (case cf_is_key => k_is)
    (case kf_is_key => k_is)
    (case af_is_below => k_is)
    (case lf_is_below => k_is)
    (case cf_is_below => k_is)
    (case kf_is_below => k_is)
    (case af_check_size => k_is)
    (case lf_check_size => k_is)
    (case cf_check_size => k_is)
    (case kf_check_size => k_is)
    (case af_is_bounded => k_is)
    (case lf_is_bounded => k_is)
    (case cf_is_bounded => k_is)
    (case kf_is_bounded => k_is)
    (case af_checked_integer => k_is)
    (case lf_checked_integer => k_is)
    (case cf_checked_integer => k_is)
    (case kf_checked_integer => k_is)
    (case af_unary => k_is)
    (case lf_unary => k_is)
    (case cf_unary => k_is)
    (case kf_unary => k_is)
    (case af_binary => k_is)
    (case lf_binary => k_is)
    (case cf_binary => k_is)
    (case kf_binary => k_is)
    (case af_is_instance => k_is)
    (case lf_is_instance => k_is)
    (case cf_is_instance => k_is)
    (case kf_is_instance => k_is)
    (case af_kinds_of => k_is)
    (case lf_kinds_of => k_is)
    (case cf_kinds_of => k_is)
    (case kf_kinds_of => k_is)
    (case af_refuse_operands => k_is)
    (case lf_refuse_operands => k_is)
    (case cf_refuse_operands => k_is)
    (case kf_refuse_operands => k_is)
    (case af_add => k_is)
    (case lf_add => k_is)
    (case cf_add => k_is)
    (case kf_add => k_is)
    (case af_compare => k_is)
    (case lf_compare => k_is)
    (case cf_compare => k_is)
    (case kf_compare => k_is)
    (case af_calculate => k_is)
    (case lf_calculate => k_is)
    (case cf_calculate => k_is)
    (case kf_calculate => k_is)
    (case af_check_key => k_is)
    (case lf_check_key => k_is)
    (case cf_check_key => k_is)
    (case kf_check_key => k_is)
    (case af_put_entry => k_is)
    (case lf_put_entry => k_is)
    (case cf_put_entry => k_is)
    (case kf_put_entry => k_is)
    (case af_make_list => k_is)
    (case lf_make_list => k_is)
    (case cf_make_list => k_is)
    (case kf_make_list => k_is)
    (case af_make_map => k_is)
    (case lf_make_map => k_is)
    (case cf_make_map => k_is)
    (case kf_make_map => k_is)
    (case af_make_class => k_is)
    (case lf_make_class => k_is)
    (case cf_make_class => k_is)
    (case kf_make_class => k_is)
    (case af_law_cell => k_is)
    (case lf_law_cell => k_is)
    (case cf_law_cell => k_is)
    (case kf_law_cell => k_is)
    (case af_law_is_integer => k_is)
    (case lf_law_is_integer => k_is)
    (case cf_law_is_integer => k_is)
    (case kf_law_is_integer => k_is)
    (case af_law_begin => k_is)
    (case lf_law_begin => k_is)
    (case cf_law_begin => k_is)
    (case kf_law_begin => k_is)
    (case af_law_draw => k_is)
    (case lf_law_draw => k_is)
    (case cf_law_draw => k_is)
    (case kf_law_draw => k_is)
    (case af_law_pick => k_is)
    (case lf_law_pick => k_is)
    (case cf_law_pick => k_is)
    (case kf_law_pick => k_is)
    (case af_law_text => k_is)
    (case lf_law_text => k_is)
    (case cf_law_text => k_is)
    (case kf_law_text => k_is)
    (case af_law_store => k_is)
    (case lf_law_store => k_is)
    (case cf_law_store => k_is)
    (case kf_law_store => k_is)
    (case af_law_value => k_is)
    (case lf_law_value => k_is)
    (case cf_law_value => k_is)
    (case kf_law_value => k_is)
    (case af_law_kind => k_is)
    (case lf_law_kind => k_is)
    (case cf_law_kind => k_is)
    (case kf_law_kind => k_is)
    (case af_law_told => k_is)
    (case lf_law_told => k_is)
    (case cf_law_told => k_is)
    (case kf_law_told => k_is)
    (case af_law_added => k_is)
    (case lf_law_added => k_is)
    (case cf_law_added => k_is)
    (case kf_law_added => k_is)
    (case af_law_compared => k_is)
    (case lf_law_compared => k_is)
    (case cf_law_compared => k_is)
    (case kf_law_compared => k_is)
    (case af_law_is => k_is)
    (case lf_law_is => k_is)
    (case cf_law_is => k_is)
    (case kf_law_is => k_is)
    (case af_law_negated => k_is)
    (case lf_law_negated => k_is)
    (case cf_law_negated => k_is)
    (case kf_law_negated => k_is)
    (case alaw => k_is)
    (case llaw => k_is)
    (case claw => k_is)
    (case klaw => k_is)
    (case af_Ref_init => k_is)
    (case if_Ref_init => k_is)
    (case lf_Ref_init => k_is)
    (case cf_Ref_init => k_is)
    (case kf_Ref_init => k_is)
    (case af_Ref_eq => k_is)
    (case if_Ref_eq => k_is)
    (case lf_Ref_eq => k_is)
    (case cf_Ref_eq => k_is)
    (case kf_Ref_eq => k_is)
    (case af_Builtin_init => k_is)
    (case if_Builtin_init => k_is)
    (case lf_Builtin_init => k_is)
    (case cf_Builtin_init => k_is)
    (case kf_Builtin_init => k_is)
    (case af_Builtin_eq => k_is)
    (case if_Builtin_eq => k_is)
    (case lf_Builtin_eq => k_is)
    (case cf_Builtin_eq => k_is)
    (case kf_Builtin_eq => k_is)
    (case af_Parts_init => k_is)
    (case if_Parts_init => k_is)
    (case lf_Parts_init => k_is)
    (case cf_Parts_init => k_is)
    (case kf_Parts_init => k_is)
    (case af_Table_init => k_is)
    (case if_Table_init => k_is)
    (case lf_Table_init => k_is)
    (case cf_Table_init => k_is)
    (case kf_Table_init => k_is)
    (case af_Table_has => k_is)
    (case if_Table_has => k_is)
    (case lf_Table_has => k_is)
    (case cf_Table_has => k_is)
    (case kf_Table_has => k_is)
    (case af_Table_put => k_is)
    (case if_Table_put => k_is)
    (case lf_Table_put => k_is)
    (case cf_Table_put => k_is)
    (case kf_Table_put => k_is)
    (case af_Table_pairs => k_is)
    (case if_Table_pairs => k_is)
    (case lf_Table_pairs => k_is)
    (case cf_Table_pairs => k_is)
    (case kf_Table_pairs => k_is)
    (case af_Table_many => k_is)
    (case pgtf_Table_many => k_is)
    (case ptkf_Table_many => k_is)
    (case prcf_Table_many => k_is)
    (case lf_Table_many => k_is)
    (case cf_Table_many => k_is)
    (case kf_Table_many => k_is)
    (case af_Instance_init => k_is)
    (case if_Instance_init => k_is)
    (case lf_Instance_init => k_is)
    (case cf_Instance_init => k_is)
    (case kf_Instance_init => k_is)
    (case af_Kin_init => k_is)
    (case if_Kin_init => k_is)
    (case lf_Kin_init => k_is)
    (case cf_Kin_init => k_is)
    (case kf_Kin_init => k_is)
    (case af_Closure_init => k_is)
    (case if_Closure_init => k_is)
    (case lf_Closure_init => k_is)
    (case cf_Closure_init => k_is)
    (case kf_Closure_init => k_is)
    (case af_Store_init => k_is)
    (case if_Store_init => k_is)
    (case lf_Store_init => k_is)
    (case cf_Store_init => k_is)
    (case kf_Store_init => k_is)
    (case af_Store_make => k_is)
    (case if_Store_make => k_is)
    (case lf_Store_make => k_is)
    (case cf_Store_make => k_is)
    (case kf_Store_make => k_is)
    (case af_Store_at => k_is)
    (case if_Store_at => k_is)
    (case lf_Store_at => k_is)
    (case cf_Store_at => k_is)
    (case kf_Store_at => k_is)
    (case qMOST_HELD => k_is)
    (case qDOUBTFUL_BITS => k_is)
    (case utORDERS => k_is)
    (case ltORDERS => k_is)
    (case vtORDERS => repeat (first | exact PySem.Paired.nil | refine PySem.Paired.cons ⟨_, rfl⟩ ?_))
    (case stORDERS => (rw [sizeLine_eq]; decide))
    (case k_Ref_Parts => kit_is)
    (case k_Ref_Table => kit_is)
    (case k_Ref_Instance => kit_is)
    (case k_Ref_Kin => kit_is)
    (case k_Ref_Builtin => kit_is)
    (case k_Ref_bool => kit_is)
    (case k_Ref_int => kit_is)
    (case k_Ref_str => kit_is)
    (case k_Builtin_Ref => kit_is)
    (case k_Builtin_Parts => kit_is)
    (case k_Builtin_Table => kit_is)
    (case k_Builtin_Instance => kit_is)
    (case k_Builtin_Kin => kit_is)
    (case k_Builtin_bool => kit_is)
    (case k_Builtin_int => kit_is)
    (case k_Builtin_str => kit_is)
    (case k_Parts_Ref => kit_is)
    (case k_Parts_Table => kit_is)
    (case k_Parts_Instance => kit_is)
    (case k_Parts_Kin => kit_is)
    (case k_Parts_Builtin => kit_is)
    (case k_Parts_bool => kit_is)
    (case k_Parts_int => kit_is)
    (case k_Parts_str => kit_is)
    (case k_Table_Ref => kit_is)
    (case k_Table_Parts => kit_is)
    (case k_Table_Instance => kit_is)
    (case k_Table_Kin => kit_is)
    (case k_Table_Builtin => kit_is)
    (case k_Table_bool => kit_is)
    (case k_Table_int => kit_is)
    (case k_Table_str => kit_is)
    (case k_Instance_Ref => kit_is)
    (case k_Instance_Parts => kit_is)
    (case k_Instance_Table => kit_is)
    (case k_Instance_Kin => kit_is)
    (case k_Instance_Builtin => kit_is)
    (case k_Instance_bool => kit_is)
    (case k_Instance_int => kit_is)
    (case k_Instance_str => kit_is)
    (case k_Kin_Ref => kit_is)
    (case k_Kin_Parts => kit_is)
    (case k_Kin_Table => kit_is)
    (case k_Kin_Instance => kit_is)
    (case k_Kin_Builtin => kit_is)
    (case k_Kin_bool => kit_is)
    (case k_Kin_int => kit_is)
    (case k_Kin_str => kit_is)
    (case k_Closure_Ref => kit_is)
    (case k_Closure_Parts => kit_is)
    (case k_Closure_Table => kit_is)
    (case k_Closure_Instance => kit_is)
    (case k_Closure_Kin => kit_is)
    (case k_Closure_Builtin => kit_is)
    (case k_Closure_bool => kit_is)
    (case k_Closure_int => kit_is)
    (case k_Closure_str => kit_is)
    (case k_Store_Ref => kit_is)
    (case k_Store_Parts => kit_is)
    (case k_Store_Table => kit_is)
    (case k_Store_Instance => kit_is)
    (case k_Store_Kin => kit_is)
    (case k_Store_Builtin => kit_is)
    (case k_Store_bool => kit_is)
    (case k_Store_int => kit_is)
    (case k_Store_str => kit_is)
    (case k_NoneType_Ref => kit_is)
    (case k_NoneType_Parts => kit_is)
    (case k_NoneType_Table => kit_is)
    (case k_NoneType_Instance => kit_is)
    (case k_NoneType_Kin => kit_is)
    (case k_NoneType_Builtin => kit_is)
    (case k_bool_Ref => kit_is)
    (case k_bool_Parts => kit_is)
    (case k_bool_Table => kit_is)
    (case k_bool_Instance => kit_is)
    (case k_bool_Kin => kit_is)
    (case k_bool_Builtin => kit_is)
    (case k_int_Ref => kit_is)
    (case k_int_Parts => kit_is)
    (case k_int_Table => kit_is)
    (case k_int_Instance => kit_is)
    (case k_int_Kin => kit_is)
    (case k_int_Builtin => kit_is)
    (case k_str_Ref => kit_is)
    (case k_str_Parts => kit_is)
    (case k_str_Table => kit_is)
    (case k_str_Instance => kit_is)
    (case k_str_Kin => kit_is)
    (case k_str_Builtin => kit_is)
    (case k_tuple_Ref => kit_is)
    (case k_tuple_Parts => kit_is)
    (case k_tuple_Table => kit_is)
    (case k_tuple_Instance => kit_is)
    (case k_tuple_Kin => kit_is)
    (case k_tuple_Builtin => kit_is)
    (case k_list_Ref => kit_is)
    (case k_list_Parts => kit_is)
    (case k_list_Table => kit_is)
    (case k_list_Instance => kit_is)
    (case k_list_Kin => kit_is)
    (case k_list_Builtin => kit_is)
    (case nf_Ref_NoneType => k_is)
    (case su_Ref_NoneType => k_is)
    (case nf_Ref_int => k_is)
    (case su_Ref_int => k_is)
    (case nf_Ref_str => k_is)
    (case su_Ref_str => k_is)
    (case nf_Ref_tuple => k_is)
    (case su_Ref_tuple => k_is)
    (case nf_Ref_list => k_is)
    (case su_Ref_list => k_is)
    (case nf_Ref_Builtin => k_is)
    (case nf_Ref_Parts => k_is)
    (case nf_Ref_Table => k_is)
    (case nf_Ref_Instance => k_is)
    (case nf_Ref_Kin => k_is)
    (case nf_Ref_Closure => k_is)
    (case nf_Ref_Store => k_is)
    (case nf_Builtin_NoneType => k_is)
    (case su_Builtin_NoneType => k_is)
    (case nf_Builtin_int => k_is)
    (case su_Builtin_int => k_is)
    (case nf_Builtin_str => k_is)
    (case su_Builtin_str => k_is)
    (case nf_Builtin_tuple => k_is)
    (case su_Builtin_tuple => k_is)
    (case nf_Builtin_list => k_is)
    (case su_Builtin_list => k_is)
    (case nf_Builtin_Ref => k_is)
    (case nf_Builtin_Parts => k_is)
    (case nf_Builtin_Table => k_is)
    (case nf_Builtin_Instance => k_is)
    (case nf_Builtin_Kin => k_is)
    (case nf_Builtin_Closure => k_is)
    (case nf_Builtin_Store => k_is)
    (case zrange => k_is)
    (case zlen => k_is)
    (case zint => k_is)
    (case zstr => k_is)
    (case zbool => k_is)
    (case zisinstance => k_is)
    (case zlist => k_is)
    (case zabs => k_is)
    (case zmin => k_is)
    (case zmax => k_is)
    (case udVERBS => k_is)
    (case ldVERBS => k_is)
    (case kdVERBS => repeat (first | exact trivial | refine ⟨⟨_, _, rfl, rfl⟩, ?_⟩))
    (case ndVERBS0 => k_is)
    (case ndVERBS1 => k_is)
    (case ndVERBS2 => k_is)
    (case ndVERBS3 => k_is)
