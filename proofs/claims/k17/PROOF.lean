import PyProof.Rows.All
import Wide.All
import OpenK.AllK
import Wide.FinOn
import HandS.ForMost
import HandS.ForExc
import HandS.StrMore
import HandS.IsInst
import HandS.Codes
import HandS.Flow
import HandS.More
import HandS.Walk
import HandS.OwnEq
import HandS.Style
import PyProof.Raises
import KE.RegKIsAll
import KE.KSuper
import KE.KExcSuper
import KE.RegKSuper
import HandS.ExcInit
import HandS.Nested
import HandS.FStr
import HandS.ExcField
import HandS.ExcIs
import HandS.Wide
import HandS.WideBits
import HandS.Deep
import PySem.Challenge.RW_livequill_k17_operators_of_integers
set_option Elab.async false
set_option linter.all false
set_option maxRecDepth 100000
namespace XS
open PySem PySem.W PySem.Calls PyProof.Rows L2 NdefX
/-! ### an own exception whose __init__ begins with super().__init__(e), over ValueError -/
/-- what the written part says: of the def at fI (its code object at cda, its cell at cc), of the class D in which it is written, and of the class C that is made -/
structure Sup (prog : Program) (K : Frag) (mg : Str → Option Value) (cda cc D C : Addr) : Prop where
  code : ∃ ccl cdd vs ccs file tf, K.lookup cda = some ⟨ccl, cdd, .fields vs, ccs⟩ ∧ vs[2]? = some (.str file tf) ∧ ((prog.main.file : Str) == file) = true
  cell : ∃ cl cld csl, K.lookup cc = some ⟨cl, cld, .cell (some (.ref D)), csl⟩
  top : (prog.main.scope.names.lookup ("super" : Str)).isSome = false
  sup : mg "super" = none
  cls : ∃ cdD, clsIn K D = some cdD
  sub : mroIn K C (.ref D) = some true
  opq : nsIn K cStatics "thirdparty.any" = some none
  ini : ks_superIn K C D "__init__" = some (some (.builtin "ValueError.__init__"))
  val : subIn K (.ref C) (.type "ValueError") = some true

theorem excInit_exo {cdC : Addr} {K : Frag} (T : OexC K cdC) {h : Heap} (X : K.In h) : ∃ nm q N bs bm sn sub ab col dd k0 k1 k2 k3 k5, h.get? cdC = some (excClassObj nm q cdC N bs bm true sn sub ab col dd k0 k1 k2 k3 k5 "ValueError.__new__") ∧ PySem.HandSPX.refsVE bm = true := by
  obtain ⟨nm, q, N, bs, bm, sn, sub, ab, col, dd, k0, k1, k2, k3, k5, hC, hbm⟩ := T.cls
  exact ⟨nm, q, N, bs, bm, sn, sub, ab, col, dd, k0, k1, k2, k3, k5, X _ _ hC, hbm⟩

section
variable {X : Cx} {pins : List (Addr × Obj)} {σ : L2.St} {H : Hp} {s : Shared} {x C : Addr} {A : Around} {E : Value → Shared → Prop}
/-- the method-wrapper called -/
theorem mw_call {u : Addr} {us : List Value} {Q : Value → Shared → Prop} (T : OexC X.K C) (I : Inv X pins σ H s) (e : H x = some (exo x C none)) (hu : s.heap.get? u = some (kxs_mw "ValueError.__init__" x)) (hl : us.length ≤ sizeLine)
    (h : ∀ s', Inv X pins σ H s' → Q .none s') : wpAny (model X.prog X.w) A (call (.ref u) us) Q E s := by
  obtain ⟨nm, q, N, bs, bm, sn, sub, ab, col, dd, k0, k1, k2, k3, k5, hC, hbm⟩ := excInit_exo T I.kIn
  obtain ⟨t1, ho⟩ := exo_at I.hok e
  obtain ⟨hp, g, d, t, os⟩ := s
  refine wpAny_call (codeAny_of_tree ?_)
  show wpAny _ A.in1 (callAny (.ref u) ⟨us, []⟩) _ _ _
  simp only [callAny]
  refine wpAny_bind (wpAny_load hu ?_)
  simp only [kxs_mw, show (Value.type "method-wrapper" == Value.type "method" || Value.type "method-wrapper" == Value.type "builtin_function_or_method" || Value.type "method-wrapper" == Value.type "method-wrapper") = true by decide, if_true]
  refine KFB.if_so (by decide) ?_
  refine wpAny_bind (check_bound_init F.excBase_ValueError.toExcCallFacts hC ho rfl ?_)
  refine wpAny_bind (wpAny_pure (wpAny_pure ?_))
  refine ⟨plainId_quiet F.excBase_ValueError.init.plain _, codeAny_builtin F.excBase_ValueError.initEntry ?_⟩
  refine exc_init_tree (cls := .ref C) (t0 := t1) (dv := none) (c2 := .none) (c3 := .none) (b4 := .bool false) ho hl fun h' k hx _ => ?_
  have J := I.write (t' := t) (x := x) (e := x) (o := exo x C none) (by rw [e]; exact True.intro) (.inl rfl) k ⟨_, hx⟩ (exo_ok hx)
  have eu : upd H x (exo x C none) = H := by
    funext b
    by_cases hb : b = x
    · rw [hb, upd_same, e]
    · rw [upd_ne hb]
  rw [eu] at J
  exact h _ J
end
theorem mw_with {M : Model} {A : Around} {E : Value → Shared → Prop} {s : Shared} {u x : Addr} {i : String} {pos : Pos} {env : Env} {e : Expr} {rest : List Expr} {Q : Value → Shared → Prop}
    (he : starEach (e :: rest) env = (false, eval e env) :: starEach rest env) (hplain : (backTo pos (starEach rest env)).any (·.1) = false)
    (h : wpAny M A (spliced (backTo pos (starEach (e :: rest) env))) (fun vs s₁ => KxsAt i u x s₁.heap ∧ wpAny M A (call (.ref u) vs) Q E s₁) E s) :
    wpAny M A (callWith pos (.ref u) [] (backTo pos (starEach (e :: rest) env)) []) Q E s := by
  rw [he] at h ⊢
  refine kxs_callWith (i := i) (x := x) (by show (false || (backTo pos (starEach rest env)).any (·.1)) = false; rw [hplain]; rfl) ?_
  exact evalArgs_plain h
/-- the def's own words -/
structure SupFn where
  qual : Str
  params : Arguments
  rest : List Stmt
  scope : Scope
  cda : Addr
  cc : Addr
  arg : Expr
  p0 : Pos
  p1 : Pos
  p2 : Pos
  p3 : Pos
  p4 : Pos
abbrev SupFn.body (F : SupFn) : List Stmt := .Expr (.Call (.Attribute (.Call (.Name "super" F.p0) [] [] F.p1) "__init__" F.p2) [F.arg] [] F.p3) F.p4 :: F.rest
abbrev SupFn.nf (F : SupFn) : NF := ⟨"__init__", F.qual, F.params, F.body, F.scope, [("__class__", F.cc)], F.cda⟩
def SupFn.Ev (F : SupFn) : Prop := ∀ env : Env, (∃ pl : Sem Bool, eval (.Call (.Attribute (.Call (.Name "super" F.p0) [] [] F.p1) "__init__" F.p2) [F.arg] [] F.p3) env = (do
      let ov ← attributeBase (.Call (.Name "super" F.p0) [] [] F.p1) "__init__" env (eval (.Call (.Name "super" F.p0) [] [] F.p1) env)
      standAt F.p2.atName
      let (f, first) ← holding [ov] (getMethod ov "__init__" pl)
      callWith F.p3 f first (backTo F.p3 (starEach [F.arg] env)) [])) ∧ starEach [F.arg] env = (false, eval F.arg env) :: starEach [] env ∧ swapsWith (.Call (.Attribute (.Call (.Name "super" F.p0) [] [] F.p1) "__init__" F.p2) [F.arg] [] F.p3) none F.p4.line env = pure false
theorem fn_super {CX : CXT} {P : Program} {w : World} {K : Frag} {mg : Str → Option Value} {base : Heap} {k : Nat} {fI D : Addr} {F : SupFn} {dV kV doc pm ct oc : Value} {an od : Option Addr} {osl : Array (Option Value)} {N ps : List Str} {sp : Sp} {ar : Arg}
    (lk : K.lookup fI = some ⟨oc, od, .func (ksFn "__init__" F.qual F.params F.body F.scope dV kV doc pm an (.ref F.cda) ct F.cc), osl⟩) (hcd : codeIn K (.ref F.cda) F.qual = true) (S : NScope N ps ["__class__"] F.scope)
    (hp : (F.params.posonlyargs ++ F.params.args).head? = some ar) (h0 : ps.head? = some ar.arg) (hks : F.scope.names.lookup ("super" : Str) = some .globalImplicit)
    (hev : F.Ev) (len : ∀ vs H Q E, sp vs H Q E → vs.length = ps.length)
    (hbody : ∀ (A : Around) (outer : List Env) (s : Shared) (H : Hp) (vs : List V) (Q : VK) (E : XK), Room k (A.deeper (envF F.nf fI s.heap.objs.size)) → sp vs H Q E →
      ∃ (x C : Addr) (ta : TA) (t : TS), vs.head? = some (.ref x) ∧ H x = some (exo x C none) ∧ OexC K C ∧ Sup P K mg F.cda F.cc D C ∧
        PA (ncx CX P w K mg base N F.nf fI A outer s H E) [F.arg] ta ∧ PSs (ncx CX P w K mg base N F.nf fI A outer s H E) F.rest t ∧
        ta (startF N vs [none]) H fun ws H1 => ws.length ≤ 1000 ∧ H1 x = some (exo x C none) ∧ t { nx := fun _ H' => Q .non H', rt := Q } (startF N vs [none]) H1) :
    FnOk P w K mg base CX (k + 1) fI (ksFn "__init__" F.qual F.params F.body F.scope dV kV doc pm an (.ref F.cda) ct F.cc) ps sp := by
  refine ⟨len, fun A outer s H args us vs Q E hr e0 hb r hsp => ?_⟩
  have hl := len _ _ _ _ hsp
  have KX : K.In s.heap := e0.mod.kin.keeps fun b o e => (e0.bs b o e).1
  have lim : s.heap.NoLimit := e0.mod.nolimit.keeps fun b o e => (e0.bs b o e).1
  obtain ⟨x, C, ta, t, hx0, hx, T, U, pa, pb, hq⟩ := hbody A outer s H vs Q E (hr.deeper _) hsp
  obtain ⟨ccl, cdd, cvs, ccs, file, tf, hcode, hvs, hfile⟩ := U.code
  obtain ⟨cl, cld, csl, hcell⟩ := U.cell
  obtain ⟨cdD, hD⟩ := U.cls
  refine ks_codeAny_call_defAt (fd := ksFn "__init__" F.qual F.params F.body F.scope dV kV doc pm an (.ref F.cda) ct F.cc) (body := F.body) (binds := ps.zip us) hr.depth (KX _ _ lk) rfl lim (codeRec_of KX hcd) rfl hb S.nocell (fun ⟨n, _⟩ hy => S.par n (List.of_mem_zip hy).1) (fun h₁ hns kp => ?_) S.co S.gen S.kind
  have CA : CellsAt F.nf.cl ["__class__"] [none] s.heap H := by
    have hc0 : base.get? F.cc = _ := e0.mod.kin _ _ hcell
    obtain ⟨g1, g2⟩ := e0.bs _ _ hc0
    have key : ∀ y c, F.nf.cl.lookup y = some c → y = "__class__" ∧ c = F.cc := fun y c e => by
      by_cases hy : y = "__class__"
      · subst hy
        have e' : some F.cc = some c := by simpa [List.lookup] using e
        exact ⟨rfl, (Option.some.inj e').symm⟩
      · have hne : (y == ("__class__" : Str)) = false := by simpa using hy
        have e' : (none : Option Addr) = some c := by simpa [List.lookup, hne] using e
        cases e'
    refine ⟨rfl, fun y c e => ?_, fun a b c e1 e2 => (key _ _ e1).1.trans (key _ _ e2).1.symm, fun i y e => ?_⟩
    · obtain ⟨_, rfl⟩ := key y c e
      exact ⟨g2, _, _, g1, rfl⟩
    · obtain rfl : y = "__class__" := by
        cases i with
        | zero => exact (Option.some.inj e).symm
        | succ i => cases e
      refine ⟨F.cc, by simp [List.lookup], fun v e' => ?_⟩
      cases i with
      | zero => cases e'
      | succ i => cases e
  have I : Inv (ncx CX P w K mg base N F.nf fI A outer s H E) [] (startF N vs [none]) H { s with heap := h₁, toks := s.toks + (ps.zip us).length } := inv_startN (F := F.nf) S hr.hd e0 hl r CA hns kp
  generalize hs1 : ({ s with heap := h₁, toks := s.toks + (ps.zip us).length } : Shared) = s1 at I ⊢
  have X1 : K.In s1.heap := I.kIn
  obtain ⟨t1, ho⟩ := exo_at I.hok hx
  obtain ⟨oD, hD1, hD2⟩ : ∃ oD, s1.heap.get? D = some oD ∧ oD.data = .cls cdD := by
    unfold clsIn at hD
    split at hD
    · rename_i c d cd' sl ho
      cases hD
      exact ⟨_, X1 _ _ ho, rfl⟩
    · cases hD
  have J : InstAt s1.heap x { cls := .ref C, dict := none, data := .fields #[.ref t1, .none, .none, .none, .bool false, .none] } C none := ⟨ho, rfl, rfl, trivial⟩
  have hself : ∃ u0 ur, us = u0 :: ur ∧ u0 = .ref x := by
    cases vs with
    | nil => cases hx0
    | cons v vr =>
      cases r with
      | @cons _ u0 _ ur ra rr =>
        obtain rfl : v = V.ref x := Option.some.inj hx0
        exact ⟨_, _, rfl, ra⟩
  obtain ⟨u0, ur, eu, eu0⟩ := hself
  subst eu0
  have hN : ∃ pr, ps = ar.arg :: pr := by
    cases ps with
    | nil => cases h0
    | cons a pr =>
      obtain rfl : a = ar.arg := Option.some.inj h0
      exact ⟨pr, rfl⟩
  obtain ⟨pr, eps⟩ := hN
  have ndP : ps.Nodup := by
    have q := S.nd.sublist (List.take_sublist (ps.length + (["__class__"] : List Str).length) N)
    rw [S.pre] at q
    exact (List.nodup_append.mp q).1
  have hns1 : s1.heap.Ns s.heap.objs.size (fun y => (ps.zip us).reverse.lookup y) := by rw [← hs1]; exact hns
  have hav : (ps.zip us).reverse.lookup ar.arg = some (.ref x) := zip_look (i := 0) ndP (by rw [eps]; rfl) (by rw [eu]; rfl)
  have ea : (ncx CX P w K mg base N F.nf fI A outer s H E).xe = fun e s' => wpAny (model P w) (A.deeper (envF F.nf fI s.heap.objs.size)) (leaving (envF F.nf fI s.heap.objs.size) e) (fun _ s'' => CX outer H s E e s'') (fun e' s'' => CX outer H s E e' s'') s' := rfl
  show _root_.PySem.wpAt (model P w) (A.deeper (envF F.nf fI s.heap.objs.size)) (.func F.body (envF F.nf fI s.heap.objs.size)) (execs F.body (envF F.nf fI s.heap.objs.size)) _ (ncx CX P w K mg base N F.nf fI A outer s H E).xe s1
  obtain ⟨⟨pl, hev1⟩, hev2, hev3⟩ := hev (envF F.nf fI s.heap.objs.size)
  refine ks_wpAt_execs_cons (ks_wpAt_Expr_any (ks_wpAt_MethodCall (pl := pl) ?_ hev1) (by show interactive (envF F.nf fI s.heap.objs.size) = false; simp [interactive, S.kind]) hev3)
  obtain ⟨mb, hb1, hb2⟩ := e0.mod.blt
  refine ks_wpAt_super_base (env := envF F.nf fI s.heap.objs.size) (of := _) (fd := _) (ar := ar) (oc := _) hks (S.frk _ (by simp)) rfl rfl (X1 _ _ lk) rfl hp rfl (X1 _ _ hcode) rfl hvs hfile U.top ?_
  refine ks_loadName_global S.kind hks (loadGlobal_builtin (env := envF F.nf fI s.heap.objs.size) (e0.mod.glob.keeps I.bk) U.sup (hb1.keeps I.bk) ((hb2 _ (by decide)).trans (by decide +kernel)) ⟨rfl, ?_⟩)
  refine wpAny_loadName_free S.kind (S.frk _ (by simp)) rfl ⟨_, X1 _ _ hcell, rfl⟩ ?_
  refine wpAny_loadName_local S.kind (S.par _ (by rw [eps]; simp)) hns1 hav ?_
  refine ks_wpAny_isType_cls hD1 hD2 ⟨rfl, ?_⟩
  clear hns kp
  obtain ⟨hp1, g1, d1, tk1, os1⟩ := s1
  refine ks_wpAny_call_super hD1 hD2 J.at_ J.cls (fun c e => by cases e) (looks_mroIn X1 U.sub) (fun h2 es2 k2 => ?_)
  have I2 := I.kept (t' := tk1) k2
  have X2 : K.In h2 := I2.kIn
  have J2 : InstAt h2 x { cls := .ref C, dict := none, data := .fields #[.ref t1, .none, .none, .none, .bool false, .none] } C none := ⟨k2 _ _ ho, rfl, rfl, trivial⟩
  have hI : Looks (model P w) h2 (isInstance (.ref x) (.type "ValueError")) true := J2.type.andThen (looks_subIn X2 U.val)
  have hini := U.ini
  cases hc : clsIn K C with
  | none => unfold ks_superIn at hini; rw [hc] at hini; cases hini
  | some cd =>
    unfold ks_superIn at hini
    rw [hc] at hini
    refine kxs_getMethod kxs_ValueError es2 (looks_opaque X2 U.opq) (l₀ := cd.mro) (fun A Q E s k q => wpAny_bind ((looks_clsIn X2 hc) A _ E s k (wpAny_pure q))) rfl X2 hini hI (ks_ne X2 J2 hc) rfl ?_
    have k3 : ∀ b o, h2.get? b = some o → (h2.push (kxs_mw "ValueError.__init__" x)).get? b = some o := fun b o e => Heap.get?_push_of_some _ e
    have I3 := I2.kept (h' := h2.push (kxs_mw "ValueError.__init__" x)) (t' := tk1 + 1) k3
    have hu : (h2.push (kxs_mw "ValueError.__init__" x)).get? h2.objs.size = some (kxs_mw "ValueError.__init__" x) := Heap.get?_push_at rfl rfl
    have pin : Inv (ncx CX P w K mg base N F.nf fI A outer s H E) [(h2.objs.size, kxs_mw "ValueError.__init__" x)] (startF N vs [none]) H ⟨h2.push (kxs_mw "ValueError.__init__" x), g1, d1, tk1 + 1, os1⟩ := by
      refine Inv.pins_of I3 fun p hp => ?_
      obtain rfl : p = (h2.objs.size, kxs_mw "ValueError.__init__" x) := by simpa using hp
      refine ⟨hu, I2.hok.fresh (Nat.le_refl _), ?_, I2.nofs (Nat.le_refl _), fun v e => by cases e⟩
      exact Nat.ne_of_gt I2.lt
    refine mw_with (i := "ValueError.__init__") (x := x) hev2 rfl ?_
    refine wpAny_mono (pa.run F.p3 _ _ _ _ _ pin hq) (fun ws s2 hh => ?_) fun e s' hs => hs
    obtain ⟨vs2, H2, I4, r4, hlen, hx4, hq4⟩ := hh
    have hu4 : s2.heap.get? h2.objs.size = some (kxs_mw "ValueError.__init__" x) := (I4.pin (h2.objs.size, kxs_mw "ValueError.__init__" x) (by simp)).1
    refine ⟨hu4, ?_⟩
    have hlw : ws.length ≤ sizeLine := by
      rw [← r4.length, sizeLine_eq]
      omega
    refine mw_call (X := ncx CX P w K mg base N F.nf fI A outer s H E) T I4 hx4 hu4 hlw fun s5 I5 => ?_
    have I6 : Inv (ncx CX P w K mg base N F.nf fI A outer s H E) [] (startF N vs [none]) H2 s5 := I5.pins_of fun p hp => absurd hp (by simp)
    refine wpAt_of_wpAny (wpAny_mono (pb.run [] s5 _ H2 _ I6 hq4) (fun fl s' hs => ?_) fun e s' hs => hs)
    have fin : ∀ {σ' : L2.St} {H' : Hp} {v : V} {u : Value}, Inv (ncx CX P w K mg base N F.nf fI A outer s H E) [] σ' H' s' → L2.RelV v u → Q v H' → CE outer P w H s Q u s' :=
      fun {σ' H' v u} J rv q => ⟨v, H', J.os, J.bare, J.base, J.hok, rv, q⟩
    cases fl with
    | ret u =>
      obtain ⟨v, σ', H', J, rv, q⟩ := hs
      exact fin J rv q
    | next =>
      obtain ⟨σ', H', J, q⟩ := hs
      exact fin (v := V.non) (u := Value.none) J rfl q
    | brk =>
      obtain ⟨_, _, _, q⟩ := hs
      exact False.elim q
    | cont =>
      obtain ⟨_, _, _, q⟩ := hs
      exact False.elim q
end XS
namespace XS
open PySem L2 NdefX
/-- the words of an __init__ that begins with super().__init__(e) -/
def supOf (st : Stmt) (qual : Str) (cda cc : Addr) : SupFn := match defBody st with
  | .Expr (.Call (.Attribute (.Call (.Name _ p0) _ _ p1) _ p2) (a :: _) _ p3) p4 :: rest => ⟨qual, defArgs st, rest, defScope st, cda, cc, a, p0, p1, p2, p3, p4⟩
  | _ => ⟨qual, defArgs st, [], defScope st, cda, cc, .Name "x" ⟨0, 0, 0, 0⟩, ⟨0, 0, 0, 0⟩, ⟨0, 0, 0, 0⟩, ⟨0, 0, 0, 0⟩, ⟨0, 0, 0, 0⟩, ⟨0, 0, 0, 0⟩⟩
/-- an __init__(self, n1, n2) of an own exception: f'..' of both to super's, then both are stored -/
def spTwo (C : Addr) (n1 n2 : Str) : Sp := fun vs H Q _ => ∃ a v1 v2, vs = [.ref a, v1, v2] ∧ H a = some (exo a C none) ∧ (∃ k : Str, v1 = .str k ∧ k.length ≤ 100000) ∧ (∃ k : Str, v2 = .str k ∧ k.length ≤ 100000) ∧
  ∀ d, H d = none → d ≠ a → Q .non (upd (upd (upd H d (exd d [(n1, v1)])) a (exo a C (some d))) d (exd d [(n2, v2), (n1, v1)]))
/-- what the written part says of the class at C and of its __init__ at fI -/
structure Exn (prog : Program) (K : PySem.W.Frag) (mg : Str → Option Value) (C fI : Addr) (n1 n2 : Str) : Prop where
  oex : OexC K C
  n1 : PySem.W.findIn K (.ref C) n1 = some none
  n2 : PySem.W.findIn K (.ref C) n2 = some none
  iC : PySem.W.findIn K (.ref C) "__init__" = some (some (.ref fI))
  tI : PySem.W.typeIn K (.ref fI) = some (.type "function")
  xf : XfC K C
  te : PySem.W.exmOne K (.ref C) (.ref C) = some true
/-- the end of C(e, ..) as the caller has it -/
theorem made_two {C : Addr} {n1 n2 : Str} {v1 v2 : V} {H : Hp} {a d : Addr} (hne : d ≠ a) (ha : H a = none) :
    upd (del (upd (upd (upd (upd H a (exo a C none)) d (exd d [(n1, v1)])) a (exo a C (some d))) d (exd d [(n2, v2), (n1, v1)])) a) d (.xd [(n2, v2), (n1, v1)]) = upd H d (.xd [(n2, v2), (n1, v1)]) := by
  funext b
  by_cases hb : b = d
  · rw [hb, upd_same, upd_same]
  · rw [upd_ne hb, upd_ne hb]
    by_cases hc : b = a
    · rw [hc, del_same, ha]
    · rw [del_ne hc, upd_ne hb, upd_ne hc, upd_ne hb, upd_ne hc]
section
variable {X : Cx} {C fI : Addr} {n1 n2 x : Str} {e : Expr} {es : List Expr} {ta : TA} {p pos pos2 : Pos} {fd : FuncData} {k : Nat}
/-- raise C(e1, e2) -/
theorem ps_raise2 {W : WX} (hc : X.calm = true) (T : Exn X.prog X.K X.mg C fI n1 n2) (F : FnOk X.prog X.w X.K X.mg X.base CX0 k fI fd ["self", n1, n2] (spTwo C n1 n2)) (hr : Room (k + 1) X.A) (tk : Takes X W) (hb : Binds X.K fd ["self", n1, n2] []) (hg : Gl X x) (hm : X.mg x = some (.ref C)) (ha : PA X (e :: es) ta)
    (hdb : (x == ("__debug__" : Str)) = false := by decide) (he : starEach (e :: es) X.env = (false, eval e X.env) :: starEach es X.env := by rfl) (hpl : (backTo pos (starEach es X.env)).any (·.1) = false := by rfl) :
    PS X (.Raise (some (.Call (.Name x p) (e :: es) [] pos)) none pos2) (fun _ σ H => tMkO C (spTwo C n1 n2) [] ta σ H fun cls d H' => W cls d σ H') := ps_raise (pos := pos2) hc tk (pmk_oex (e := e) (es := es) (p := p) (pos := pos) T.oex T.iC T.tI F hr hb .nil pass0 hg hm ha hdb he hpl)
/-- .. its reading, behind the arguments' -/
theorem made2 {k1 k2 : Str} {H1 : Hp} {Q : XK} (z1 : k1.length ≤ 100000) (z2 : k2.length ≤ 100000) (w : ∀ d, H1 d = none → Q (.ref C) (some d) (upd H1 d (.xd [(n2, .str k2), (n1, .str k1)]))) :
    ([.str k1, .str k2] : List V).length ≤ 1000 ∧ ∀ a, H1 a = none → spTwo C n1 n2 (.ref a :: ([.str k1, .str k2] ++ [])) (upd H1 a (exo a C none))
      (fun v H2 => v = .non ∧ ∃ (d : Addr) (fs : List (Str × V)), H2 a = some (exo a C (some d)) ∧ H2 d = some (exd d fs) ∧ H1 d = none ∧ Q (.ref C) (some d) (upd (del H2 a) d (.xd fs))) (fun _ _ _ => False) := by
  refine ⟨by show 2 ≤ 1000; omega, fun a ha => ?_⟩
  refine ⟨a, .str k1, .str k2, rfl, upd_same, ⟨_, rfl, z1⟩, ⟨_, rfl, z2⟩, fun d hd hne => ⟨rfl, d, _, ?_, upd_same, ?_, ?_⟩⟩
  · rw [upd_ne (Ne.symm hne)]
    exact upd_same
  · rw [upd_ne hne] at hd
    exact hd
  · rw [upd_ne hne] at hd
    rw [made_two hne ha]
    exact w d hd
end
end XS
namespace My
open PySem L2 SX XS
open C8 (pss_cut tCut cutS_slice pe_gc)
def top (i : Nat) : Stmt := PySem.Challenge.pw_livequill_k17_operators_of_integers.main.body.getD i (.Pass ⟨0, 0, 0, 0⟩)
abbrev sSE : Stmt := inClass (top 3) 0
theorem evSE (cda cc : Addr) : (supOf sSE "ScriptError.__init__" cda cc).Ev := fun env => ⟨⟨_, by rfl⟩, by rfl, by rfl⟩
theorem bodySE (cda cc : Addr) : defBody sSE = (supOf sSE "ScriptError.__init__" cda cc).body := by rfl
theorem scSE : NdefX.NScope ["self", "kind", "message", "__class__"] ["self", "kind", "message"] ["__class__"] (defScope sSE) := NdefX.nscope_by (by decide +kernel)
section
variable {P : Program} {w : World} {K : PySem.W.Frag} {mg : Str → Option Value} {base : Heap} {cE fI cda cc : Addr}
theorem lt_len {s : Str} (h : s.length ≤ 100000) : s.length ≤ sizeLine := by rw [sizeLine_eq]; omega
theorem ok_SE {dV kV doc pm ct oc : Value} {an od : Option Addr} {osl : Array (Option Value)} (lk : K.lookup fI = some ⟨oc, od, .func (PySem.W.ksFn "__init__" "ScriptError.__init__" (defArgs sSE) (defBody sSE) (defScope sSE) dV kV doc pm an (.ref cda) ct cc), osl⟩)
    (hcd : PySem.W.codeIn K (.ref cda) "ScriptError.__init__" = true) (T : Exn P K mg cE fI "kind" "message") (U : Sup P K mg cda cc cE cE) :
    FnOk P w K mg base CX0 1 fI (PySem.W.ksFn "__init__" "ScriptError.__init__" (defArgs sSE) (defBody sSE) (defScope sSE) dV kV doc pm an (.ref cda) ct cc) ["self", "kind", "message"] (spTwo cE "kind" "message") := by
  refine fn_super (D := cE) (F := supOf sSE "ScriptError.__init__" cda cc) lk hcd scSE rfl rfl (show (defScope sSE).names.lookup ("super" : Str) = some .globalImplicit by decide +kernel) (evSE cda cc) (fun vs H Q E h => ?_) (fun A outer s H vs Q E hr h => ?_)
  · obtain ⟨a, v1, v2, rfl, _⟩ := h
    rfl
  · obtain ⟨a, v1, v2, rfl, ha, ⟨k1, rfl, z1⟩, ⟨k2, rfl, z2⟩, q⟩ := h
    refine ⟨a, cE, _, _, rfl, ha, T.oex, U, pa_cons (pe_joined (.cons (pe_fmt (pv 1)) (.cons pe_str (.cons (pe_fmt (pv 2)) .nil)))) pa_nil, pss_cons (ps_ost (pv 0) (pv 1)) (pss_one (ps_ost (pv 0) (pv 2))), ?_⟩
    have l0 : (Str.empty : Str).length = 0 := by decide +kernel
    have l2 : ((": " : Str)).length = 2 := by decide +kernel
    refine ⟨_, rfl, .inl ⟨k1, rfl, lt_len z1, k1, rfl, ?_, ?_⟩⟩
    · rw [Str.length_append, l0, sizeLine_eq]
      omega
    · refine ⟨_, rfl, ?_, _, rfl, .inl ⟨k2, rfl, lt_len z2, k2, rfl, ?_, ?_⟩⟩
      · rw [Str.length_append, Str.length_append, l0, l2, sizeLine_eq]
        omega
      · rw [Str.length_append, Str.length_append, Str.length_append, l0, l2, sizeLine_eq]
        omega
      · refine ⟨by show 1 ≤ 1000; omega, ha, ?_⟩
        refine ⟨_, rfl, _, rfl, a, cE, rfl, T.oex, T.n1, .inl ⟨ha, fun d hd hne => ?_⟩⟩
        refine ⟨_, rfl, _, rfl, a, cE, rfl, T.oex, T.n2, .inr ⟨d, [("kind", .str k1)], upd_same, ?_, (by show 1 ≤ 900; omega), ?_⟩⟩
        · rw [upd_ne hne]
          exact upd_same
        · exact q d hd hne
end
end My
namespace PySem.W
open PySem PySem.Spec PySem.Calls PyProof.Rows
section
variable {prog : Program} {w : World} {A : Around} {E : Value → Shared → Prop} {s : Shared} {K : Frag} {x D : Addr} {ox : Obj}
theorem xs_findObj {C : Addr} {od : Option Obj} {name : Str} {a g : Value} (hc : (clsIn K C).isSome = true) (ha : findIn K (.ref C) name = some (some a)) (hg : specialIn K a "__get__" = some (some g)) (ht : takesIn K a = some true) : findObj K C od name = some (.bind g a) := by
  obtain ⟨cd, hc⟩ := Option.isSome_iff_exists.mp hc
  unfold findObj
  rw [hc, Option.bind_some, ha, Option.bind_some]
  simp [hg, ht]
theorem xs_class {Q : Option Value → Shared → Prop} (hga : findIn K (.ref D) "__getattribute__" = some (some (.builtin "BaseException.__getattribute__"))) (hgt : findIn K (.ref D) "__getattr__" = some none) (hsub : subIn K (.ref D) (.type "BaseException") = some true)
    (hdct : hasDictIn K D = true) (ha : findIn K (.ref D) "__class__" = some (some (.builtin "object.__class__")))
    (hn : specialIn K (.builtin "object.__class__") "__get__" = some (some (.builtin "getset_descriptor.__get__"))) (htk : takesIn K (.builtin "object.__class__") = some true) (hm : mroIn K D (.type "object") = some true)
    {odx : Option Obj} (X : K.In s.heap) (I : InstAt s.heap x ox D odx) (h : Q (some (.ref D)) { s with toks := s.toks + 1 }) : wpAny (model prog w) A (getAttr? (.ref x) "__class__") Q E s := by
  have hf : findObj K D odx "__class__" = some (.bind (.builtin "getset_descriptor.__get__") (.builtin "object.__class__")) := xs_findObj (by obtain ⟨cd, hc, _⟩ := any_some hdct; rw [hc]; rfl) ha hn htk
  obtain ⟨hp, g, d, t, os⟩ := s
  have L0 := I.type (M := model prog w)
  have L1 := looks_findIn (M := model prog w) X hga
  have L2 := looks_findIn (M := model prog w) X hgt
  have L3 := looks_find (M := model prog w) X I hf
  have sub : Looks (model prog w) hp (isInstance (.ref x) (.type "BaseException")) true := L0.andThen (looks_subIn X hsub)
  have hx0 : (false && onTheHeap (Value.builtin "BaseException.__getattribute__")) = false := rfl
  have hx2 : (Value.builtin "BaseException.__getattribute__" == Value.builtin "object.__getattribute__") = false := by decide +kernel
  have hx1 : (onTheHeap (Value.ref D) && Value.builtin "BaseException.__getattribute__" == Value.builtin "object.__getattribute__") = false := by rw [hx2]; rfl
  unfold getAttr? getAttrBy? getAttrBy
  refine wpAny_bind (wpAny_mkText (wpAny_bind (wpAny_attempt (wpAny_holding (wpAny_bind (L0.at (wpAny_bind (L1.at ?_))))))))
  show wpAny _ _ (if (onTheHeap (Value.ref D) && Value.builtin "BaseException.__getattribute__" == Value.builtin "object.__getattribute__") = true then _ else _) _ _ _
  rw [hx1, if_neg Bool.false_ne_true]
  unfold getAttrByItsOwn hookBefore
  refine wpAny_bind ?_
  rw [if_pos (show onTheHeap (Value.ref D) = true from rfl)]
  refine L2.at ?_
  refine wpAny_bind (wpAny_attempt (wpAny_holding ?_))
  unfold callGetattribute
  rw [hx0, if_neg Bool.false_ne_true]
  unfold boundAndCalled
  rw [PySem.F.excAttr_ValueError.ga.bind (.ref x)]
  refine wpAny_bind (wpAny_pure ?_)
  show wpAny _ _ (call (.builtin "BaseException.__getattribute__") [.ref x, .str "__class__" t]) _ _ _
  refine wpAny_call (codeAny_call_builtin PySem.F.excAttr_ValueError.ga.plain PySem.F.entry_bexc_ga ?_)
  refine @check_slot (model prog w) _ _ ⟨hp, g, d, t + 1, os⟩ "BaseException.__getattribute__" "BaseException" "__getattribute__" (.ref x) [.str "__class__" t] [] _ (by decide +kernel) (by decide +kernel) sub (PySem.F.args_bexc_ga (.ref x) (.str "__class__" t)) ?_
  unfold Builtin.«object.__getattribute__»
  refine wpAny_bind (wpAny_of_eq (a := ((Value.ref x : Value), [Value.str "__class__" t])) (by first | rfl | (simp only [slotArgs]; rfl)) ?_)
  refine wpAny_bind (wpAny_pure (wpAny_bind (L0.at (wpAny_bind (L3.at ?_)))))
  show wpAny _ _ (holding [Value.builtin "object.__class__"] (call (.builtin "getset_descriptor.__get__") [.builtin "object.__class__", .ref x, .ref D]) >>= ret) _ _ _
  refine wpAny_bind (wpAny_holding (wpAny_call (class_get (s := ⟨hp, g, d, t + 1, os⟩) (ox := ox) (od := odx) X I hm ?_)))
  refine wpAny_pure ?_
  show wpAny _ _ (handedOut (.ref D)) _ _ _
  rw [handedOut_of (v := .ref D) rfl]
  first
    | exact wpAny_pure (wpAny_pure h)
    | exact wpAny_pure h
    | exact wpAny_pure (wpAny_bind (wpAny_pure (wpAny_pure h)))
theorem xs_kitx {odx : Option Obj} (hga : findIn K (.ref D) "__getattribute__" = some (some (.builtin "BaseException.__getattribute__"))) (hgt : findIn K (.ref D) "__getattr__" = some none) (hsub : subIn K (.ref D) (.type "BaseException") = some true) (hdct : hasDictIn K D = true) (ha : findIn K (.ref D) "__class__" = some (some (.builtin "object.__class__")))
    (hn : specialIn K (.builtin "object.__class__") "__get__" = some (some (.builtin "getset_descriptor.__get__"))) (htk : takesIn K (.builtin "object.__class__") = some true) (hm : mroIn K D (.type "object") = some true) :
    KitX K (.ref x) (.ref D) (fun h => InstAt h x ox D odx) where
  ty := fun _ _ _ I => I.type
  it := fun _ _ X _ => by
    obtain ⟨cdD, hcD, _⟩ := any_some hdct
    unfold clsIn at hcD
    split at hcD
    · rename_i c' d' cd' sl' ho
      intro A' Q' E' s' k q
      unfold isType loadHead
      exact wpAny_bind (wpAny_loadPart (k _ _ (X _ _ ho)) (wpAny_pure q))
    · cases hcD
  ne := fun h tp dd its n sl X htp => by
    obtain ⟨cdD, hcD, _⟩ := any_some hdct
    refine Bool.eq_false_iff.mpr fun q => ?_
    have e : D = tp := Value.ref.inj (beq_iff_eq.mp q)
    subst e
    unfold clsIn at hcD
    split at hcD
    · rename_i c' d' cd' sl' ho
      have z := (X _ _ ho).symm.trans htp
      cases z
    · cases hcD
  ca := fun X I k => xs_class hga hgt hsub hdct ha hn htk hm X I k
end
end PySem.W
namespace L2
open PySem PySem.Spec PyProof.Rows
/-- isinstance(e, c), e the exception that the suite holds, with fields of its own -/
def rIsED (K : PySem.W.Frag) (D a : Addr) (cls : Value) (d : Option Addr) : List V → Hp → VK → Prop := fun xs H Q => ∃ (c : V) (cv : Value) (b : Bool) (dd : Addr) (fs : List (Str × V)), cls = .ref D ∧ d = some dd ∧ xs = [.ref a, c] ∧ (∀ u, RelV c u → u = cv) ∧ H dd = some (.xd fs) ∧ PySem.W.kitOne K (.ref D) cv = some b ∧ Q (.bl b) H
theorem call_isED {X : Cx} {a D : Addr} {oe : Obj} {cls : Value} {d : Option Addr} {pn : List (Addr × Obj)} (C : ExcC X.K D) (hz : Zc cls d oe) (hf : ∃ vs, oe.data = .fields vs) : CallR (X.suite a ((a, oe) :: pn)) (.builtin "isinstance") (rIsED X.K D a cls d) := by
  intro pins s σ H xs us Q I r h
  obtain ⟨c, cv, b, dd, fs, rfl, rfl, rfl, hcv, hdd, e, q⟩ := h
  cases r with
  | cons rx rr =>
    cases rr with
    | cons rt rr =>
      cases rr
      cases rx
      have ec := hcv _ rt
      subst ec
      obtain ⟨hget, _⟩ := I.pin (a, oe) (List.mem_append.mpr (.inl List.mem_cons_self))
      obtain ⟨vs, hv⟩ := hf
      have hx : ObjOk X.prog X.w H s.heap dd (.xd fs) := I.hok dd _ hdd
      obtain ⟨mA, hns, hr⟩ := hx
      obtain ⟨od, ho, hl⟩ := lookIn_ns hns
      have J : PySem.W.InstAt s.heap a oe D (some od) := ⟨hget, hz.1, by unfold PySem.W.notCls; rw [hv] <;> rfl, by rw [hz.2]; exact ho⟩
      exact PySem.W.kia_one (PySem.W.xs_kitx C.hg C.hk C.hs C.hd C.ha C.hn C.ht C.hm) I.kIn J e (fun z => nomatch z) fun tk => ⟨.bl b, H, I.kept (t' := tk) fun _ _ z => z, rfl, q⟩
end L2
namespace My
open PySem L2 SX XS
open C8 (pss_cut tCut cutS_slice pe_gc)
/-! ### words of this law -/
def Keep (p : Addr) (H H' : Hp) : Prop := ∀ b o, H b = some o → b ≠ p → H' b = some o
theorem Same.keep {p : Addr} {H H' : Hp} (s : Same H H') : Keep p H H' := fun b o e _ => s b o e
theorem Keep.trans {p : Addr} {H H1 H2 : Hp} (a : Keep p H H1) (b : Keep p H1 H2) : Keep p H H2 := fun c o e n => b c o (a c o e n) n
theorem keep_upd {p : Addr} {H : Hp} {o : HO} : Keep p H (upd H p o) := fun b x e n => by
  rw [upd_ne n]
  exact e
theorem same_upd {H : Hp} {p : Addr} {o : HO} (h : H p = none) : Same H (upd H p o) := fun b x e => by
  rw [upd_ne (ne_of_none e h)]
  exact e
theorem lk_hit {k : Str} {v : V} {r : List (Str × V)} : ((k, v) :: r).lookup k = some v := by
  simp [List.lookup]
theorem lk_skip {k k' : Str} {v : V} {r : List (Str × V)} (h : (k == k') = false) : ((k', v) :: r).lookup k = r.lookup k := by
  simp [List.lookup, h]
structure Bl (mg : Str → Option Value) : Prop where
  range : mg "range" = none
  len : mg "len" = none
  int : mg "int" = none
  str : mg "str" = none
  bool : mg "bool" = none
  isinstance : mg "isinstance" = none
  list : mg "list" = none
  abs : mg "abs" = none
  min : mg "min" = none
  max : mg "max" = none
/-! ### integers -/
@[irreducible] def big : Nat := 10 ^ 300
theorem big_bits : big < 2 ^ 997 := by unfold big; decide +kernel
theorem bits_big : 2 ^ 996 ≤ big := by unfold big; decide +kernel
theorem small_big {n : Nat} (h : n ≤ 1000000000000000000000000000000) : n < big := Nat.lt_of_le_of_lt h (by unfold big; decide +kernel)
theorem nat_bits {n : Nat} (h : n.log2 < 996) : n < 2 ^ 996 := by
  by_cases h0 : n = 0
  · rw [h0]; exact Nat.two_pow_pos _
  · exact (Nat.log2_lt h0).mp h
theorem lt_of_bits {i : Int} (h : (Builtin.Int.intBits i : Int) < 997) : i.natAbs < big := by
  have h' : Builtin.Int.intBits i < 997 := by exact_mod_cast h
  unfold Builtin.Int.intBits at h'
  refine Nat.lt_of_lt_of_le (nat_bits ?_) bits_big
  split at h' 
  · rename_i h0
    have : i.natAbs = 0 := by simp_all
    rw [this]; decide
  · omega
theorem fit_iff {i : Int} : i.natAbs < big ↔ -(big : Int) < i ∧ i < big := by omega
theorem fmod_abs {a b : Int} (h : b ≠ 0) : (a - b * a.fdiv b).natAbs < b.natAbs := by
  have e : a - b * a.fdiv b = a.fmod b := by
    have := Int.mul_fdiv_add_fmod a b
    omega
  rw [e, Int.fmod_eq_emod]
  have h1 := Int.emod_nonneg a h
  have h2 : a % b < b.natAbs := by
    have := Int.emod_lt a h
    omega
  by_cases hb : 0 ≤ b ∨ b ∣ a
  · rw [if_pos hb]
    omega
  · rw [if_neg hb]
    have h3 : a % b ≠ 0 := fun z => hb (.inr (Int.dvd_of_emod_eq_zero z))
    have h4 : b < 0 := by
      have := fun z => hb (.inl z)
      omega
    omega
/-! ### operators of integers of any size -/
section
variable {X : Cx}
def CDivX (_ j : Int) : Prop := j ≠ 0 ∧ j.natAbs.log2 < 9000
theorem op_fdivX : OpR X (binaryOp .FloorDiv) (rI CDivX fun i j => .int (i.fdiv j)) := opI fun _ _ _ _ _ _ _ hc q => PyProof.Rows.floordiv_int hc.1 q (.inl (PyProof.noPylong_of_log2 hc.2))
def CPowX (i j : Int) : Prop := 0 ≤ j ∧ (Builtin.Int.intBits i : Int) * j ≤ 2 ^ 27
theorem op_powX : OpR X (binaryOp .Pow) (rI CPowX fun i j => .int (i ^ j.toNat)) := opI fun _ _ _ _ _ _ _ hc q => PyProof.Rows.pow_int hc.1 hc.2 q
theorem divx_ok {i j : Int} (h : j ≠ 0) (hb : j.natAbs < big) : CDivX i j := by
  refine ⟨h, ?_⟩
  have : j.natAbs < 2 ^ 997 := Nat.lt_trans hb big_bits
  exact Nat.lt_of_lt_of_le (PySem.Flt.log2_lt_of (by decide) this) (by decide)
/-- x not in t, t a tuple of data -/
def rNotInT (K : PySem.W.Frag) : R2 := fun x y H Q => ∃ d ds, Dp K H x d ∧ Dp K H y (.tuple ds) ∧ SeqAt.shaped d = true ∧ SeqAt.shaped (.tuple ds) = true ∧ Q (.bl (!ds.any fun z => PyData.eqv z d)) H
theorem op_notInT (hu : X.A.units + 65 < cLine) : OpR X (compareOp .NotIn) (rNotInT X.K) := by
  intro pins s σ H x y v u Q I rx ry h
  obtain ⟨d, ds, hd, he, sd, se, q⟩ := h
  obtain ⟨as, r1⟩ := Dp.reads I d x v hd rx
  obtain ⟨bs, r2⟩ := Dp.reads I (.tuple ds) y u he ry
  exact SeqAt.notIn_tuple_reads r2 r1 (SeqAt.canLay_of_shaped se) (SeqAt.canLay_of_shaped sd) (PyProof.Rows.room_in_shaped sd hu) ⟨.bl _, H, I, rfl, q⟩
end
end My
namespace My
open PySem L2 SX XS
open C8 (pss_cut tCut cutS_slice pe_gc)
abbrev sKindOf : Stmt := top 14
abbrev sIsTrue : Stmt := top 16
abbrev sEqual : Stmt := top 17
abbrev sIsBounded : Stmt := top 23
abbrev sChecked : Stmt := top 24
abbrev sUnary : Stmt := top 28
abbrev sBinary : Stmt := top 29
abbrev sKindsOf : Stmt := top 31
abbrev sAdd : Stmt := top 33
abbrev sCompare : Stmt := top 34
abbrev sCalculate : Stmt := top 35
/-- the errors -/
structure Ex (P : Program) (K : PySem.W.Frag) (mg : Str → Option Value) (cE cL cW fI : Addr) (gE : FuncData) : Prop where
  T : Exn P K mg cE fI "kind" "message"
  F : ∀ w base, FnOk P w K mg base CX0 1 fI gE ["self", "kind", "message"] (spTwo cE "kind" "message")
  b : Binds K gE ["self", "kind", "message"] []
  gE : mg "ScriptError" = some (.ref cE)
  gL : mg "LivequillError" = some (.ref cL)
  gW : mg "Waiting" = some (.ref cW)
  ec : ExcC K cE
  kL : PySem.W.kitOne K (.ref cE) (.ref cL) = some true
  kW : PySem.W.kitOne K (.ref cE) (.ref cW) = some false
/-- what is wished of an error with these words -/
def Err (E : XK) (cE : Addr) (H : Hp) (k m : Str) : Prop := ∀ d, H d = none → E (.ref cE) (some d) (upd H d (.xd [("message", .str m), ("kind", .str k)]))
section
variable {P : Program} {w : World} {K : PySem.W.Frag} {mg : Str → Option Value} {base : Heap} {cE cL cW fI : Addr} {gE : FuncData}
theorem kit_int_bool : PySem.W.kitOne K (.type "int") (.type "bool") = some false := kit_ty (show kitB "int" "bool" = some false by decide +kernel)
theorem kit_int_int : PySem.W.kitOne K (.type "int") (.type "int") = some true := kit_ty (show kitB "int" "int" = some true by decide +kernel)
theorem kit_bool_bool : PySem.W.kitOne K (.type "bool") (.type "bool") = some true := kit_ty (show kitB "bool" "bool" = some true by decide +kernel)
/-! ### kind_of, kinds_of -/
theorem scKindOf : FnScope ["store", "value"] ["store", "value"] (defScope sKindOf) := ⟨rfl, rfl, rfl, by decide +kernel, rfl, by decide +kernel, by decide +kernel⟩
def spKindOf : Sp := fun vs H Q _ => ∃ st i, vs = [st, .int i] ∧ Q (.str "integer") H
theorem ok_kind_of {f : Addr} {fd : FuncData} (F : Fun K "kind_of" "kind_of" sKindOf f fd) (B : Bl mg) : FnOk P w K mg base CX0 1 f fd ["store", "value"] spKindOf := by
  refine F.ok scKindOf (fun vs H Q E h => ?_) (fun cdv A outer s H vs Q E hr h => ?_)
  · obtain ⟨st, i, rfl, _⟩ := h
    rfl
  · obtain ⟨st, i, rfl, q⟩ := h
    refine ⟨_, pss_cons (ps_if (pt_cmpR op_isN (pv 1) pe_non (nomark _)) (pss_one (ps_ret pe_str)) pss_nil)
      (pss_cons (ps_if (pt_val (pe_callB call_isi (by rfl) B.isinstance (by decide +kernel) (pa_cons (pv 1) (pa_cons (pe_bltn (v := .ty "bool") (by rfl) B.bool (by decide +kernel) rfl) pa_nil)))) (pss_one (ps_ret pe_str)) pss_nil)
      (pss_cons (ps_if (pt_val (pe_callB call_isi (by rfl) B.isinstance (by decide +kernel) (pa_cons (pv 1) (pa_cons (pe_bltn (v := .ty "int") (by rfl) B.int (by decide +kernel) rfl) pa_nil)))) (pss_one (ps_ret pe_str)) pss_nil)
      pss_never)), ?_⟩
    refine ⟨_, rfl, rfl, _, rfl, ite2 (fun h => absurd (of_decide_eq_true h) (by simp)) fun _ => ?_⟩
    refine ⟨_, rfl, _, .ty "bool", _, _, false, rfl, .ty _, .base (.int _), kit_int_bool, _, rfl, iteF ?_⟩
    exact ⟨_, rfl, _, .ty "int", _, _, true, rfl, .ty _, .base (.int _), kit_int_int, _, rfl, iteT q⟩
theorem scKindsOf : FnScope ["store", "x", "y"] ["store", "x", "y"] (defScope sKindsOf) := ⟨rfl, rfl, rfl, by decide +kernel, rfl, by decide +kernel, by decide +kernel⟩
def ii : List V := [.str "integer", .str "integer"]
def spKindsOf : Sp := fun vs H Q _ => ∃ st i j, vs = [st, .int i, .int j] ∧ ∀ p, H p = none → Q (.ref p) (upd H p (.tup ii))
theorem ok_kinds_of {f fK : Addr} {fd gK : FuncData} (F : Fun K "kinds_of" "kinds_of" sKindsOf f fd) (B : Bl mg) (FK : Fun K "kind_of" "kind_of" sKindOf fK gK) (bK : Binds K gK ["store", "value"] []) (mK : mg "kind_of" = some (.ref fK)) :
    FnOk P w K mg base CX0 2 f fd ["store", "x", "y"] spKindsOf := by
  have GK : FnOk P w K mg base CX0 1 fK gK ["store", "value"] spKindOf := ok_kind_of FK B
  refine F.ok scKindsOf (fun vs H Q E h => ?_) (fun cdv A outer s H vs Q E hr h => ?_)
  · obtain ⟨st, i, j, rfl, _⟩ := h
    rfl
  · obtain ⟨st, i, j, rfl, q⟩ := h
    refine ⟨_, pss_one (ps_ret (pe_tup (pa_cons (pe_call GK hr (by rfl) mK FK.kp bK .nil pass0 (pa_cons (pv 0) (pa_cons (pv 1) pa_nil))) (pa_cons (pe_call GK hr (by rfl) mK FK.kp bK .nil pass0 (pa_cons (pv 0) (pa_cons (pv 2) pa_nil))) pa_nil)))), ?_⟩
    exact ⟨_, rfl, _, rfl, st, i, rfl, _, rfl, _, rfl, st, j, rfl, (by show 2 ≤ sizeLine; decide), fun p hp => q p hp⟩
/-! ### is_bounded, checked_integer -/
theorem scIsBounded : FnScope ["number"] ["number"] (defScope sIsBounded) := ⟨rfl, rfl, rfl, by decide +kernel, rfl, by decide +kernel, by decide +kernel⟩
def spIsBounded : Sp := fun vs H Q _ => ∃ i : Int, vs = [.int i] ∧ Q (.bl (decide (i.natAbs < big))) H
theorem ok_is_bounded {f : Addr} {fd : FuncData} (F : Fun K "is_bounded" "is_bounded" sIsBounded f fd) (B : Bl mg) (mD : ∃ t, mg "DOUBTFUL_BITS" = some (.int 997 t)) : FnOk P w K mg base CX0 1 f fd ["number"] spIsBounded := by
  obtain ⟨tD, mD⟩ := mD
  refine F.ok scIsBounded (fun vs H Q E h => ?_) (fun cdv A outer s H vs Q E hr h => ?_)
  · obtain ⟨i, rfl, _⟩ := h
    rfl
  · obtain ⟨i, rfl, q⟩ := h
    refine ⟨_, pss_one (ps_ret (pe_or (pe_cmpR op_lt (pe_bits (pv 0)) (pe_glob (v := .int 997) (by rfl) mD ⟨_, rfl⟩) (nomark _))
      (pe_one (pe_cmpR op_lt (pe_callB call_abs (by rfl) B.abs (by decide +kernel) (pa_cons (pv 0) pa_nil)) (pe_op op_powX (pe_op op_pow pe_int pe_int) pe_int) (nomark _))))), ?_⟩
    refine ⟨_, rfl, _, rfl, _, _, rfl, rfl, _, rfl, ite2 (fun h => ?_) fun _ => ?_⟩
    · rw [show decide (i.natAbs < big) = true from decide_eq_true (lt_of_bits (of_decide_eq_true h))] at q
      exact q
    · refine ⟨_, rfl, _, rfl, _, _, rfl, rfl, ⟨by decide, by decide, by decide⟩, _, _, rfl, rfl, ⟨by decide, by decide +kernel⟩, _, _, rfl, rfl, ?_⟩
      have e : decide ((if i < 0 then -i else i) < ((10 : Int) ^ (60 : Int).toNat) ^ (5 : Int).toNat) = decide (i.natAbs < big) := by
        have e1 : ((10 : Int) ^ (60 : Int).toNat) ^ (5 : Int).toNat = (big : Int) := by
          unfold big
          decide +kernel
        rw [e1, decide_eq_decide]
        split <;> omega
      show Q (.bl (decide ((if i < 0 then -i else i) < ((10 : Int) ^ (60 : Int).toNat) ^ (5 : Int).toNat))) H
      rw [e]
      exact q
theorem scChecked : FnScope ["number"] ["number"] (defScope sChecked) := ⟨rfl, rfl, rfl, by decide +kernel, rfl, by decide +kernel, by decide +kernel⟩
def spChecked (cE : Addr) : Sp := fun vs H Q E => ∃ i : Int, vs = [.int i] ∧ (i.natAbs < big → Q (.int i) H) ∧ (¬ i.natAbs < big → Err E cE H "OverflowError" "the integer is too large")
theorem ok_checked {f fB : Addr} {fd gB : FuncData} (F : Fun K "checked_integer" "checked_integer" sChecked f fd) (B : Bl mg) (mD : ∃ t, mg "DOUBTFUL_BITS" = some (.int 997 t)) (FB : Fun K "is_bounded" "is_bounded" sIsBounded fB gB) (bB : Binds K gB ["number"] []) (mB : mg "is_bounded" = some (.ref fB))
    (Z : Ex P K mg cE cL cW fI gE) : FnOk P w K mg base (L2.CX P w) 3 f fd ["number"] (spChecked cE) := by
  have GB : FnOk P w K mg base CX0 1 fB gB ["number"] spIsBounded := ok_is_bounded FB B mD
  refine F.okX scChecked (fun vs H Q E h => ?_) (fun cdv A outer s H vs Q E hr h => ?_)
  · obtain ⟨i, rfl, _⟩ := h
    rfl
  · obtain ⟨i, rfl, q1, q2⟩ := h
    refine ⟨_, pss_cons (ps_if (pt_not (pt_val (pe_call GB (hr.mono (by decide)) (by rfl) mB FB.kp bB .nil pass0 (pa_cons (pv 0) pa_nil)))) (pss_one (ps_raise2 rfl Z.T (Z.F _ _) hr (takes_of rfl rfl rfl rfl) Z.b (by rfl) Z.gE (pa_cons pe_str (pa_cons pe_str pa_nil)))) pss_nil)
      (pss_one (ps_ret (pv 0))), ?_⟩
    refine ⟨_, rfl, i, rfl, _, rfl, ?_⟩
    by_cases hb : i.natAbs < big
    · rw [show decide (i.natAbs < big) = true from decide_eq_true hb]
      exact iteF ⟨_, rfl, q1 hb⟩
    · rw [show decide (i.natAbs < big) = false from decide_eq_false hb]
      exact iteT (made2 (by decide +kernel) (by decide +kernel) (q2 hb))
/-! ### the operators -/
inductive Op where
  | add | sub | mul | div | mod | lt | le | gt | ge | eq | ne
  deriving DecidableEq
def Op.nm : Op → Str
  | .add => "+" | .sub => "-" | .mul => "*" | .div => "/" | .mod => "mod" | .lt => "<" | .le => "<=" | .gt => ">" | .ge => ">=" | .eq => "==" | .ne => "!="
def Op.isA : Op → Bool
  | .add | .sub | .mul | .div | .mod => true
  | _ => false
def reck (o : Op) (x y : Int) : Int := match o with
  | .add => x + y | .sub => x - y | .mul => x * y | .div => x.fdiv y | .mod => x - y * x.fdiv y | _ => 0
def comp (o : Op) (x y : Int) : Bool := match o with
  | .lt => decide (x < y) | .le => decide (x ≤ y) | .gt => decide (y < x) | .ge => decide (y ≤ x) | .eq => decide (x = y) | .ne => !decide (x = y) | _ => false
def zdiv (o : Op) (y : Int) : Bool := (o == .div || o == .mod) && decide (y = 0)
/-- what an operator of two integers comes to -/
def rOp (cE : Addr) (o : Op) (x y : Int) (H : Hp) (Q : VK) (E : XK) : Prop :=
  if o.isA = true then (if zdiv o y = true then ∀ H', Same H H' → Err E cE H' "ZeroDivisionError" "division by zero" else if (reck o x y).natAbs < big then ∀ H', Same H H' → Q (.int (reck o x y)) H' else ∀ H', Same H H' → Err E cE H' "OverflowError" "the integer is too large")
  else ∀ H', Same H H' → Q (.bl (comp o x y)) H'
theorem rOp_a {cE : Addr} {o : Op} {x y : Int} {H : Hp} {Q : VK} {E : XK} (h : rOp cE o x y H Q E) (a : o.isA = true) (z : zdiv o y = false) :
    ((reck o x y).natAbs < big → ∀ H', Same H H' → Q (.int (reck o x y)) H') ∧ (¬ (reck o x y).natAbs < big → ∀ H', Same H H' → Err E cE H' "OverflowError" "the integer is too large") := by
  unfold rOp at h
  rw [if_pos a, z, if_neg Bool.false_ne_true] at h
  exact ⟨fun b => by rw [if_pos b] at h; exact h, fun b => by rw [if_neg b] at h; exact h⟩
theorem rOp_z {cE : Addr} {o : Op} {x y : Int} {H : Hp} {Q : VK} {E : XK} (h : rOp cE o x y H Q E) (a : o.isA = true) (z : zdiv o y = true) : ∀ H', Same H H' → Err E cE H' "ZeroDivisionError" "division by zero" := by
  unfold rOp at h
  rw [if_pos a, if_pos z] at h
  exact h
theorem rOp_c {cE : Addr} {o : Op} {x y : Int} {H : Hp} {Q : VK} {E : XK} (h : rOp cE o x y H Q E) (a : o.isA = false) : ∀ H', Same H H' → Q (.bl (comp o x y)) H' := by
  unfold rOp at h
  rw [a, if_neg Bool.false_ne_true] at h
  exact h
theorem ii_eqv : PyData.eqv (.tuple [.str "integer", .str "integer"]) (.tuple [.str "integer", .str "integer"]) = true := SeqAt.eqv_refl _ (by decide +kernel)
theorem ii_dp {H : Hp} {p : Addr} (h : H p = some (.tup ii)) : Dp K H (.ref p) (.tuple [.str "integer", .str "integer"]) := .tup (.inl (.inl h)) (.cons (.str _) (.cons (.str _) .nil))
theorem scAdd : FnScope ["store", "x", "y", "kinds"] ["store", "x", "y"] (defScope sAdd) := ⟨rfl, rfl, rfl, by decide +kernel, rfl, by decide +kernel, by decide +kernel⟩
def spAdd (cE : Addr) : Sp := fun vs H Q E => ∃ st x y, vs = [st, .int x, .int y] ∧ rOp cE .add x y H Q E
/-- where the program's defs stand -/
structure Pd (K : PySem.W.Frag) (mg : Str → Option Value) (kK kS kB kC : Addr) (uK uS uB uC : FuncData) : Prop where
  fK : Fun K "kind_of" "kind_of" sKindOf kK uK
  bK : Binds K uK ["store", "value"] []
  gK : mg "kind_of" = some (.ref kK)
  fS : Fun K "kinds_of" "kinds_of" sKindsOf kS uS
  bS : Binds K uS ["store", "x", "y"] []
  gS : mg "kinds_of" = some (.ref kS)
  fB : Fun K "is_bounded" "is_bounded" sIsBounded kB uB
  bB : Binds K uB ["number"] []
  gB : mg "is_bounded" = some (.ref kB)
  fC : Fun K "checked_integer" "checked_integer" sChecked kC uC
  bC : Binds K uC ["number"] []
  gC : mg "checked_integer" = some (.ref kC)
  mD : ∃ t, mg "DOUBTFUL_BITS" = some (.int 997 t)
variable {kK kS kB kC : Addr} {uK uS uB uC : FuncData}
theorem Pd.checked (D : Pd K mg kK kS kB kC uK uS uB uC) (B : Bl mg) (Z : Ex P K mg cE cL cW fI gE) : FnOk P w K mg base (L2.CX P w) 3 kC uC ["number"] (spChecked cE) := ok_checked D.fC B D.mD D.fB D.bB D.gB Z
theorem Pd.kinds (D : Pd K mg kK kS kB kC uK uS uB uC) (B : Bl mg) : FnOk P w K mg base CX0 2 kS uS ["store", "x", "y"] spKindsOf := ok_kinds_of D.fS B D.fK D.bK D.gK
theorem ok_add {f : Addr} {fd : FuncData} (F : Fun K "add" "add" sAdd f fd) (B : Bl mg) (D : Pd K mg kK kS kB kC uK uS uB uC) (Z : Ex P K mg cE cL cW fI gE) : FnOk P w K mg base (L2.CX P w) 4 f fd ["store", "x", "y"] (spAdd cE) := by
  have GC := D.checked (w := w) (base := base) B Z
  have GS := D.kinds (P := P) (w := w) (base := base) B
  refine F.okX scAdd (fun vs H Q E h => ?_) (fun cdv A outer s H vs Q E hr h => ?_)
  · obtain ⟨st, x, y, rfl, _⟩ := h
    rfl
  · obtain ⟨st, x, y, rfl, q⟩ := h
    refine ⟨_, pss_cons (ps_set (i := 3) scAdd.nd rfl (.inl rfl) (pe_call GS (hr.mono (by decide)) (by rfl) D.gS D.fS.kp D.bS .nil pass0 (pa_cons (pv 0) (pa_cons (pv 1) (pa_cons (pv 2) pa_nil)))))
      (pss_cons (ps_if (pt_cmpR (op_eqD hr.units) (pv 3) (pe_tup (pa_cons pe_str (pa_cons pe_str pa_nil))) (nomark _)) (pss_one (ps_ret (pe_callS GC hr (by rfl) D.gC D.fC.kp D.bC (fun σ => passAt (takes_of rfl rfl rfl rfl) σ) (pa_cons (pe_op op_add (pv 1) (pv 2)) pa_nil)))) pss_nil)
      pss_never), ?_⟩
    refine ⟨_, rfl, _, rfl, _, rfl, st, x, y, rfl, fun p np => ?_⟩
    refine ⟨_, rfl, (by show 2 ≤ sizeLine; decide), fun r nr => ?_⟩
    have s1 := same_upd (o := .tup ii) np
    have s2 := same_upd (o := .tup ii) nr
    refine ⟨_, _, ii_dp (s2 _ _ upd_same), ii_dp upd_same, by decide +kernel, by decide +kernel, _, rfl, ?_⟩
    rw [ii_eqv]
    obtain ⟨q1, q2⟩ := rOp_a q rfl rfl
    exact iteT ⟨_, rfl, _, rfl, _, _, rfl, rfl, x + y, rfl, fun hb => q1 hb _ (s1.trans s2), fun hb => q2 hb _ (s1.trans s2)⟩
end
end My
namespace My
open PySem L2 SX XS
open C8 (pss_cut tCut cutS_slice pe_gc)
theorem units65 {k : Nat} {A : Around} (r : Room k A) : A.units + 65 < cLine := by have := r.un; omega
theorem ifF {b : Bool} {A B : Prop} (h : b = false) (q : B) : if b = true then A else B := by
  rw [h]
  exact iteF q
theorem ifT {b : Bool} {A B : Prop} (h : b = true) (q : A) : if b = true then A else B := by
  rw [h]
  exact iteT q
section
variable {P : Program} {w : World} {K : PySem.W.Frag} {mg : Str → Option Value} {base : Heap} {cE cL cW fI : Addr} {gE : FuncData} {kK kS kB kC : Addr} {uK uS uB uC : FuncData}
theorem scCompare : FnScope ["store", "operator", "x", "y", "kinds"] ["store", "operator", "x", "y"] (defScope sCompare) := ⟨rfl, rfl, rfl, by decide +kernel, rfl, by decide +kernel, by decide +kernel⟩
def spCompare : Sp := fun vs H Q _ => ∃ (st : V) (o : Op) (x y : Int), vs = [st, .str o.nm, .int x, .int y] ∧ (o = .lt ∨ o = .le ∨ o = .gt ∨ o = .ge) ∧ ∀ H', Same H H' → Q (.bl (comp o x y)) H'
theorem iitt_in : (!([.tuple [.str "integer", .str "integer"], .tuple [.str "text", .str "text"]] : List PyData).any fun z => PyData.eqv z (.tuple [.str "integer", .str "integer"])) = false := by
  simp [List.any_cons, ii_eqv]
theorem ok_compare {f : Addr} {fd : FuncData} (F : Fun K "compare" "compare" sCompare f fd) (B : Bl mg) (D : Pd K mg kK kS kB kC uK uS uB uC) : FnOk P w K mg base CX0 3 f fd ["store", "operator", "x", "y"] spCompare := by
  have GS := D.kinds (P := P) (w := w) (base := base) B
  refine F.ok scCompare (fun vs H Q E h => ?_) (fun cdv A outer s H vs Q E hr h => ?_)
  · obtain ⟨st, o, x, y, rfl, _⟩ := h
    rfl
  · obtain ⟨st, o, x, y, rfl, ho, q⟩ := h
    refine ⟨_, pss_cons (ps_set (i := 4) scCompare.nd rfl (.inl rfl) (pe_call GS hr (by rfl) D.gS D.fS.kp D.bS .nil pass0 (pa_cons (pv 0) (pa_cons (pv 2) (pa_cons (pv 3) pa_nil)))))
      (pss_cons (ps_if (pt_cmpR (op_notInT (units65 hr)) (pv 4) (pe_tup (pa_cons (pe_tup (pa_cons pe_str (pa_cons pe_str pa_nil))) (pa_cons (pe_tup (pa_cons pe_str (pa_cons pe_str pa_nil))) pa_nil))) (by rfl)) (pss_one ps_never) pss_nil)
      (pss_cons (ps_if (pt_cmpR op_eq (pv 1) pe_str (nomark _)) (pss_one (ps_ret (pe_cmpR op_lt (pv 2) (pv 3) (nomark _)))) pss_nil)
      (pss_cons (ps_if (pt_cmpR op_eq (pv 1) pe_str (nomark _)) (pss_one (ps_ret (pe_cmpR op_le (pv 2) (pv 3) (nomark _)))) pss_nil)
      (pss_cons (ps_if (pt_cmpR op_eq (pv 1) pe_str (nomark _)) (pss_one (ps_ret (pe_cmpR op_gt (pv 2) (pv 3) (nomark _)))) pss_nil)
      (pss_one (ps_ret (pe_cmpR op_ge (pv 2) (pv 3) (nomark _)))))))), ?_⟩
    refine ⟨_, rfl, _, rfl, _, rfl, st, x, y, rfl, fun p np => ?_⟩
    refine ⟨_, rfl, (by show 2 ≤ sizeLine; decide), fun r nr => ⟨(by show 2 ≤ sizeLine; decide), fun r2 nr2 => ⟨(by show 2 ≤ sizeLine; decide), fun r3 nr3 => ?_⟩⟩⟩
    have s1 := same_upd (o := .tup ii) np
    have s2 := same_upd (o := .tup ii) nr
    have s3 := same_upd (o := .tup [.str "text", .str "text"]) nr2
    have s4 := same_upd (o := .tup [.ref r, .ref r2]) nr3
    have d1 := ii_dp (K := K) (s4 _ _ (s3 _ _ (s2 _ _ upd_same)))
    have e1 := ii_dp (K := K) (s4 _ _ (s3 _ _ upd_same))
    have e2 : Dp K (upd (upd (upd (upd H p (.tup ii)) r (.tup ii)) r2 (.tup [.str "text", .str "text"])) r3 (.tup [.ref r, .ref r2])) (.ref r2) (.tuple [.str "text", .str "text"]) := .tup (.inl (.inl (s4 _ _ upd_same))) (.cons (.str _) (.cons (.str _) .nil))
    have e3 : Dp K (upd (upd (upd (upd H p (.tup ii)) r (.tup ii)) r2 (.tup [.str "text", .str "text"])) r3 (.tup [.ref r, .ref r2])) (.ref r3) (.tuple [.tuple [.str "integer", .str "integer"], .tuple [.str "text", .str "text"]]) := .tup (.inl (.inl upd_same)) (.cons e1 (.cons e2 .nil))
    refine ⟨_, _, d1, e3, by decide +kernel, by decide +kernel, _, rfl, ifF iitt_in ?_⟩
    have q' := q _ (((s1.trans s2).trans s3).trans s4)
    refine ⟨_, rfl, rfl, _, rfl, ?_⟩
    rcases ho with rfl | rfl | rfl | rfl
    · exact ifT (by decide +kernel) ⟨_, rfl, _, rfl, _, _, rfl, rfl, q'⟩
    · exact ifF (by decide +kernel) ⟨_, rfl, rfl, _, rfl, ifT (by decide +kernel) ⟨_, rfl, _, rfl, _, _, rfl, rfl, q'⟩⟩
    · exact ifF (by decide +kernel) ⟨_, rfl, rfl, _, rfl, ifF (by decide +kernel) ⟨_, rfl, rfl, _, rfl, ifT (by decide +kernel) ⟨_, rfl, _, rfl, _, _, rfl, rfl, q'⟩⟩⟩
    · exact ifF (by decide +kernel) ⟨_, rfl, rfl, _, rfl, ifF (by decide +kernel) ⟨_, rfl, rfl, _, rfl, ifF (by decide +kernel) ⟨_, rfl, _, rfl, _, _, rfl, rfl, q'⟩⟩⟩
theorem scCalculate : FnScope ["store", "operator", "x", "y", "kinds", "quotient"] ["store", "operator", "x", "y"] (defScope sCalculate) := ⟨rfl, rfl, rfl, by decide +kernel, rfl, by decide +kernel, by decide +kernel⟩
def spCalculate (cE : Addr) : Sp := fun vs H Q E => ∃ (st : V) (o : Op) (x y : Int), vs = [st, .str o.nm, .int x, .int y] ∧ (o = .sub ∨ o = .mul ∨ o = .div ∨ o = .mod) ∧ x.natAbs < big ∧ y.natAbs < big ∧ rOp cE o x y H Q E
theorem mul_ok {x y : Int} (hx : x.natAbs < big) (hy : y.natAbs < big) : CMulW x y := wide_mul (Nat.lt_trans hx big_bits) (Nat.lt_trans hy big_bits) (by decide) (by decide) (by decide)
theorem ok_calculate {f : Addr} {fd : FuncData} (F : Fun K "calculate" "calculate" sCalculate f fd) (B : Bl mg) (D : Pd K mg kK kS kB kC uK uS uB uC) (Z : Ex P K mg cE cL cW fI gE) : FnOk P w K mg base (L2.CX P w) 4 f fd ["store", "operator", "x", "y"] (spCalculate cE) := by
  have GC := D.checked (w := w) (base := base) B Z
  have GS := D.kinds (P := P) (w := w) (base := base) B
  refine F.okX scCalculate (fun vs H Q E h => ?_) (fun cdv A outer s H vs Q E hr h => ?_)
  · obtain ⟨st, o, x, y, rfl, _⟩ := h
    rfl
  · obtain ⟨st, o, x, y, rfl, ho, hx, hy, q⟩ := h
    refine ⟨_, pss_cons (ps_set (i := 4) scCalculate.nd rfl (.inl rfl) (pe_call GS (hr.mono (by decide)) (by rfl) D.gS D.fS.kp D.bS .nil pass0 (pa_cons (pv 0) (pa_cons (pv 2) (pa_cons (pv 3) pa_nil)))))
      (pss_cons (ps_if (pt_cmpR (op_neD hr.units) (pv 4) (pe_tup (pa_cons pe_str (pa_cons pe_str pa_nil))) (nomark _)) (pss_one ps_never) pss_nil)
      (pss_cons (ps_if (pt_cmpR op_eq (pv 1) pe_str (nomark _)) (pss_one (ps_ret (pe_callS GC hr (by rfl) D.gC D.fC.kp D.bC (fun σ => passAt (takes_of rfl rfl rfl rfl) σ) (pa_cons (pe_op op_sub (pv 2) (pv 3)) pa_nil)))) pss_nil)
      (pss_cons (ps_if (pt_cmpR op_eq (pv 1) pe_str (nomark _)) (pss_one (ps_ret (pe_callS GC hr (by rfl) D.gC D.fC.kp D.bC (fun σ => passAt (takes_of rfl rfl rfl rfl) σ) (pa_cons (pe_op op_mulW (pv 2) (pv 3)) pa_nil)))) pss_nil)
      (pss_cons (ps_if (pt_cmpR op_eq (pv 3) pe_int (nomark _)) (pss_one (ps_raise2 rfl Z.T (Z.F _ _) (hr.mono (by decide)) (takes_of rfl rfl rfl rfl) Z.b (by rfl) Z.gE (pa_cons pe_str (pa_cons pe_str pa_nil)))) pss_nil)
      (pss_cons (ps_set (i := 5) scCalculate.nd rfl (.inl rfl) (pe_op op_fdivX (pv 2) (pv 3)))
      (pss_one (ps_ret (pe_ifExp (pt_cmpR op_eq (pv 1) pe_str (nomark _)) (pv 5) (pe_op op_sub (pv 2) (pe_op op_mulW (pv 3) (pv 5))))))))))), ?_⟩
    refine ⟨_, rfl, _, rfl, _, rfl, st, x, y, rfl, fun p np => ?_⟩
    refine ⟨_, rfl, (by show 2 ≤ sizeLine; decide), fun r nr => ?_⟩
    have s1 := same_upd (o := .tup ii) np
    have s2 := same_upd (o := .tup ii) nr
    have s12 := s1.trans s2
    refine ⟨_, _, ii_dp (s2 _ _ upd_same), ii_dp upd_same, by decide +kernel, by decide +kernel, _, rfl, ifF (by rw [ii_eqv]; rfl) ?_⟩
    refine ⟨_, rfl, rfl, _, rfl, ?_⟩
    rcases ho with rfl | rfl | rfl | rfl
    · obtain ⟨q1, q2⟩ := rOp_a q rfl rfl
      exact ifT (by decide +kernel) ⟨_, rfl, _, rfl, _, _, rfl, rfl, x - y, rfl, fun hb => q1 hb _ s12, fun hb => q2 hb _ s12⟩
    · obtain ⟨q1, q2⟩ := rOp_a q rfl rfl
      exact ifF (by decide +kernel) ⟨_, rfl, rfl, _, rfl, ifT (by decide +kernel) ⟨_, rfl, _, rfl, _, _, rfl, rfl, mul_ok hx hy, x * y, rfl, fun hb => q1 hb _ s12, fun hb => q2 hb _ s12⟩⟩
    · refine ifF (by decide +kernel) ⟨_, rfl, rfl, _, rfl, ifF (by decide +kernel) ⟨_, rfl, rfl, _, rfl, ?_⟩⟩
      by_cases hz : y = 0
      · exact ifT (by simp [hz]) (made2 (by decide +kernel) (by decide +kernel) (rOp_z q rfl (by simp [zdiv, hz]) _ s12))
      · refine ifF (by simp [hz]) ⟨_, rfl, _, rfl, _, _, rfl, rfl, divx_ok hz hy, ?_⟩
        obtain ⟨q1, q2⟩ := rOp_a q rfl (by simp [zdiv, hz])
        exact ⟨_, rfl, rfl, _, rfl, ifT (by decide +kernel) ⟨_, rfl, q1 (Nat.lt_of_le_of_lt (Int.natAbs_fdiv_le_natAbs x y) hx) _ s12⟩⟩
    · refine ifF (by decide +kernel) ⟨_, rfl, rfl, _, rfl, ifF (by decide +kernel) ⟨_, rfl, rfl, _, rfl, ?_⟩⟩
      by_cases hz : y = 0
      · exact ifT (by simp [hz]) (made2 (by decide +kernel) (by decide +kernel) (rOp_z q rfl (by simp [zdiv, hz]) _ s12))
      · refine ifF (by simp [hz]) ⟨_, rfl, _, rfl, _, _, rfl, rfl, divx_ok hz hy, ?_⟩
        obtain ⟨q1, q2⟩ := rOp_a q rfl (by simp [zdiv, hz])
        exact ⟨_, rfl, rfl, _, rfl, ifF (by decide +kernel) ⟨_, rfl, _, rfl, _, rfl, _, _, rfl, rfl, mul_ok hy (Nat.lt_of_le_of_lt (Int.natAbs_fdiv_le_natAbs x y) hx), _, _, rfl, rfl, q1 (Nat.lt_trans (fmod_abs hz) hy) _ s12⟩⟩
end
end My
namespace My
open PySem L2 SX XS
open C8 (pss_cut tCut cutS_slice pe_gc)
theorem op_notBlM {X : Cx} : OpR X (compareOp .IsNot) (fun x y H Q => y = .bl false ∧ Q (.bl (!decide (x = .bl false))) H) := by
  intro pins s σ H x y v u Q I rx ry h
  obtain ⟨rfl, q⟩ := h
  cases (show u = Value.bool false from ry)
  by_cases e : x = .bl false
  · subst e
    cases (show v = Value.bool false from rx)
    exact wpAny_isNot_self rfl ⟨.bl false, H, I, rfl, by simpa using q⟩
  · have fin : EP X pins σ Q (Value.bool true) s := ⟨.bl true, H, I, rfl, by simpa [e] using q⟩
    cases x with
    | bl b =>
      cases (show v = Value.bool b from rx)
      exact wpAny_isNot_other rfl (fun z => e (by rw [Value.bool.inj z])) fin
    | int i => obtain ⟨t, rfl⟩ := (show ∃ t, v = Value.int i t from rx); exact wpAny_isNot_other rfl (fun z => nomatch z) fin
    | str i => obtain ⟨t, rfl⟩ := (show ∃ t, v = Value.str i t from rx); exact wpAny_isNot_other rfl (fun z => nomatch z) fin
    | byt i => obtain ⟨t, rfl⟩ := (show ∃ t, v = Value.bytes i t from rx); exact wpAny_isNot_other rfl (fun z => nomatch z) fin
    | flt i => obtain ⟨t, rfl⟩ := (show ∃ t, v = Value.float i t from rx); exact wpAny_isNot_other rfl (fun z => nomatch z) fin
    | non => cases (show v = Value.none from rx); exact wpAny_isNot_other rfl (fun z => nomatch z) fin
    | ref a => cases (show v = Value.ref a from rx); exact wpAny_isNot_other rfl (fun z => nomatch z) fin
    | ty n => cases (show v = Value.type n from rx); exact wpAny_isNot_other rfl (fun z => nomatch z) fin
section
variable {P : Program} {w : World} {K : PySem.W.Frag} {mg : Str → Option Value} {base : Heap} {cE cL cW fI : Addr} {gE : FuncData} {kK kS kB kC kE kA kO kL kT oA : Addr} {uK uS uB uC uE uA uO uL uT : FuncData}
theorem scEqual : FnScope ["x", "y"] ["x", "y"] (defScope sEqual) := ⟨rfl, rfl, rfl, by decide +kernel, rfl, by decide +kernel, by decide +kernel⟩
def spEqual : Sp := fun vs H Q _ => ∃ x y : Int, vs = [.int x, .int y] ∧ Q (.bl (decide (x = y))) H
theorem ok_equal {f : Addr} {fd : FuncData} (F : Fun K "equal" "equal" sEqual f fd) (B : Bl mg) : FnOk P w K mg base CX0 1 f fd ["x", "y"] spEqual := by
  refine F.ok scEqual (fun vs H Q E h => ?_) (fun cdv A outer s H vs Q E hr h => ?_)
  · obtain ⟨x, y, rfl, _⟩ := h
    rfl
  · obtain ⟨x, y, rfl, q⟩ := h
    refine ⟨_, pss_one (ps_ret (pe_and (pe_cmpR op_eq (pe_callB call_isi (by rfl) B.isinstance (by decide +kernel) (pa_cons (pv 0) (pa_cons (pe_bltn (v := .ty "bool") (by rfl) B.bool (by decide +kernel) rfl) pa_nil))) (pe_callB call_isi (by rfl) B.isinstance (by decide +kernel) (pa_cons (pv 1) (pa_cons (pe_bltn (v := .ty "bool") (by rfl) B.bool (by decide +kernel) rfl) pa_nil))) (nomark _))
      (pe_one (pe_cmpR op_eq (pv 0) (pv 1) (nomark _))))), ?_⟩
    refine ⟨_, rfl, _, .ty "bool", _, _, false, rfl, .ty _, .base (.int _), kit_int_bool, _, rfl, _, .ty "bool", _, _, false, rfl, .ty _, .base (.int _), kit_int_bool, rfl, _, rfl, ifT (by decide) ⟨_, rfl, _, rfl, rfl, ?_⟩⟩
    rw [show decide (V.int x = V.int y) = decide (x = y) by simp]
    exact q
theorem scIsTrue : FnScope ["value"] ["value"] (defScope sIsTrue) := ⟨rfl, rfl, rfl, by decide +kernel, rfl, by decide +kernel, by decide +kernel⟩
def spIsTrue : Sp := fun vs H Q _ => ∃ x : Int, vs = [.int x] ∧ Q (.bl true) H
theorem ok_is_true {f : Addr} {fd : FuncData} (F : Fun K "is_true" "is_true" sIsTrue f fd) : FnOk P w K mg base CX0 1 f fd ["value"] spIsTrue := by
  refine F.ok scIsTrue (fun vs H Q E h => ?_) (fun cdv A outer s H vs Q E hr h => ?_)
  · obtain ⟨x, rfl, _⟩ := h
    rfl
  · obtain ⟨x, rfl, q⟩ := h
    refine ⟨_, pss_one (ps_ret (pe_and (pe_cmpR op_notN (pv 0) pe_non (nomark _)) (pe_one (pe_cmpR op_notBlM (pv 0) pe_bl (nomark _))))), ?_⟩
    exact ⟨_, rfl, rfl, _, rfl, ifT (by simp) ⟨_, rfl, rfl, by simpa using q⟩⟩
theorem scUnary : FnScope ["store", "operator", "x", "kind"] ["store", "operator", "x"] (defScope sUnary) := ⟨rfl, rfl, rfl, by decide +kernel, rfl, by decide +kernel, by decide +kernel⟩
def spUnary : Sp := fun vs H Q _ => ∃ (st : V) (n : Bool) (x : Int), vs = [st, .str (if n then "not" else "-"), .int x] ∧ Q (if n then .bl false else .int (-x)) H
theorem ok_unary {f : Addr} {fd : FuncData} (F : Fun K "unary" "unary" sUnary f fd) (B : Bl mg) (D : Pd K mg kK kS kB kC uK uS uB uC) (FT : Fun K "is_true" "is_true" sIsTrue kT uT) (bT : Binds K uT ["value"] []) (mT : mg "is_true" = some (.ref kT)) : FnOk P w K mg base CX0 2 f fd ["store", "operator", "x"] spUnary := by
  have GK : FnOk P w K mg base CX0 1 kK uK ["store", "value"] spKindOf := ok_kind_of D.fK B
  have GT : FnOk P w K mg base CX0 1 kT uT ["value"] spIsTrue := ok_is_true FT
  refine F.ok scUnary (fun vs H Q E h => ?_) (fun cdv A outer s H vs Q E hr h => ?_)
  · obtain ⟨st, n, x, rfl, _⟩ := h
    rfl
  · obtain ⟨st, n, x, rfl, q⟩ := h
    refine ⟨_, pss_cons (ps_if (pt_cmpR op_eq (pv 1) pe_str (nomark _)) (pss_one (ps_ret (pe_not (pe_call GT hr (by rfl) mT FT.kp bT .nil pass0 (pa_cons (pv 2) pa_nil))))) pss_nil)
      (pss_cons (ps_set (i := 3) scUnary.nd rfl (.inl rfl) (pe_call GK hr (by rfl) D.gK D.fK.kp D.bK .nil pass0 (pa_cons (pv 0) (pa_cons (pv 2) pa_nil))))
      (pss_cons (ps_if (pt_cmpR op_ne (pv 3) pe_str (nomark _)) (pss_one ps_never) pss_nil)
      (pss_one (ps_ret (pe_un un_neg (pv 2)))))), ?_⟩
    cases n with
    | true => exact ⟨_, rfl, rfl, _, rfl, ifT (by decide +kernel) ⟨_, rfl, x, rfl, _, rfl, q⟩⟩
    | false => exact ⟨_, rfl, rfl, _, rfl, ifF (by decide +kernel) ⟨_, rfl, _, rfl, st, x, rfl, _, rfl, rfl, _, rfl, ifF (by decide +kernel) ⟨_, rfl, _, rfl, q⟩⟩⟩
theorem scBinary : FnScope ["store", "operator", "x", "y"] ["store", "operator", "x", "y"] (defScope sBinary) := ⟨rfl, rfl, rfl, by decide +kernel, rfl, by decide +kernel, by decide +kernel⟩
def spBinary (cE : Addr) : Sp := fun vs H Q E => ∃ (st : V) (o : Op) (x y : Int), vs = [st, .str o.nm, .int x, .int y] ∧ x.natAbs < big ∧ y.natAbs < big ∧ rOp cE o x y H Q E
def ords : List V := [.str "<", .str "<=", .str ">", .str ">="]
/-- the rest of the program's defs -/
structure Pe (K : PySem.W.Frag) (mg : Str → Option Value) (kE kA kO kL oA : Addr) (uE uA uO uL : FuncData) : Prop where
  fE : Fun K "equal" "equal" sEqual kE uE
  bE : Binds K uE ["x", "y"] []
  gE : mg "equal" = some (.ref kE)
  fA : Fun K "add" "add" sAdd kA uA
  bA : Binds K uA ["store", "x", "y"] []
  gA : mg "add" = some (.ref kA)
  fO : Fun K "compare" "compare" sCompare kO uO
  bO : Binds K uO ["store", "operator", "x", "y"] []
  gO : mg "compare" = some (.ref kO)
  fL : Fun K "calculate" "calculate" sCalculate kL uL
  bL : Binds K uL ["store", "operator", "x", "y"] []
  gL : mg "calculate" = some (.ref kL)
  oG : mg "ORDERS" = some (.ref oA)
  oT : ∀ H, SqT K H oA ords
theorem ok_binary {f : Addr} {fd : FuncData} (F : Fun K "binary" "binary" sBinary f fd) (B : Bl mg) (D : Pd K mg kK kS kB kC uK uS uB uC) (Z : Ex P K mg cE cL cW fI gE) (R : Pe K mg kE kA kO kL oA uE uA uO uL) : FnOk P w K mg base (L2.CX P w) 5 f fd ["store", "operator", "x", "y"] (spBinary cE) := by
  have GE : FnOk P w K mg base CX0 1 kE uE ["x", "y"] spEqual := ok_equal R.fE B
  have GA : FnOk P w K mg base (L2.CX P w) 4 kA uA ["store", "x", "y"] (spAdd cE) := ok_add R.fA B D Z
  have GO : FnOk P w K mg base CX0 3 kO uO ["store", "operator", "x", "y"] spCompare := ok_compare R.fO B D
  have GL : FnOk P w K mg base (L2.CX P w) 4 kL uL ["store", "operator", "x", "y"] (spCalculate cE) := ok_calculate R.fL B D Z
  refine F.okX scBinary (fun vs H Q E h => ?_) (fun cdv A outer s H vs Q E hr h => ?_)
  · obtain ⟨st, o, x, y, rfl, _⟩ := h
    rfl
  · obtain ⟨st, o, x, y, rfl, hx, hy, q⟩ := h
    refine ⟨_, pss_cons (ps_if (pt_cmpR op_eq (pv 1) pe_str (nomark _)) (pss_one (ps_ret (pe_call GE (hr.mono (by decide)) (by rfl) R.gE R.fE.kp R.bE .nil pass0 (pa_cons (pv 2) (pa_cons (pv 3) pa_nil))))) pss_nil)
      (pss_cons (ps_if (pt_cmpR op_eq (pv 1) pe_str (nomark _)) (pss_one (ps_ret (pe_not (pe_call GE (hr.mono (by decide)) (by rfl) R.gE R.fE.kp R.bE .nil pass0 (pa_cons (pv 2) (pa_cons (pv 3) pa_nil)))))) pss_nil)
      (pss_cons (ps_if (pt_cmpR op_eq (pv 1) pe_str (nomark _)) (pss_one ps_never) pss_nil)
      (pss_cons (ps_if (pt_cmpR op_eq (pv 1) pe_str (nomark _)) (pss_one (ps_ret (pe_callS GA hr (by rfl) R.gA R.fA.kp R.bA (fun σ => passAt (takes_of rfl rfl rfl rfl) σ) (pa_cons (pv 0) (pa_cons (pv 2) (pa_cons (pv 3) pa_nil)))))) pss_nil)
      (pss_cons (ps_if (pt_cmpR op_in_seq (pv 1) (pe_gc (v := .ref oA) (by rfl) ⟨_, R.oG, rfl⟩) (by rfl)) (pss_one (ps_ret (pe_call GO (hr.mono (by decide)) (by rfl) R.gO R.fO.kp R.bO .nil pass0 (pa_cons (pv 0) (pa_cons (pv 1) (pa_cons (pv 2) (pa_cons (pv 3) pa_nil))))))) pss_nil)
      (pss_one (ps_ret (pe_callS GL hr (by rfl) R.gL R.fL.kp R.bL (fun σ => passAt (takes_of rfl rfl rfl rfl) σ) (pa_cons (pv 0) (pa_cons (pv 1) (pa_cons (pv 2) (pa_cons (pv 3) pa_nil)))))))))))
      , ?_⟩
    refine ⟨_, rfl, rfl, _, rfl, ?_⟩
    cases o with
    | eq => exact ifT (by decide +kernel) ⟨_, rfl, _, rfl, x, y, rfl, rOp_c q rfl _ (Same.refl _)⟩
    | ne => exact ifF (by decide +kernel) ⟨_, rfl, rfl, _, rfl, ifT (by decide +kernel) ⟨_, rfl, _, rfl, x, y, rfl, _, rfl, rOp_c q rfl _ (Same.refl _)⟩⟩
    | add => exact ifF (by decide +kernel) ⟨_, rfl, rfl, _, rfl, ifF (by decide +kernel) ⟨_, rfl, rfl, _, rfl, ifF (by decide +kernel) ⟨_, rfl, rfl, _, rfl, ifT (by decide +kernel) ⟨_, rfl, _, rfl, _, rfl, st, x, y, rfl, q⟩⟩⟩⟩
    | lt => exact ifF (by decide +kernel) ⟨_, rfl, rfl, _, rfl, ifF (by decide +kernel) ⟨_, rfl, rfl, _, rfl, ifF (by decide +kernel) ⟨_, rfl, rfl, _, rfl, ifF (by decide +kernel) ⟨_, rfl, oA, _, rfl, .inr (R.oT _), rfl, rfl, _, rfl, ifT (by decide +kernel) ⟨_, rfl, _, rfl, _, rfl, _, rfl, st, .lt, x, y, rfl, .inl rfl, rOp_c q rfl⟩⟩⟩⟩⟩
    | le => exact ifF (by decide +kernel) ⟨_, rfl, rfl, _, rfl, ifF (by decide +kernel) ⟨_, rfl, rfl, _, rfl, ifF (by decide +kernel) ⟨_, rfl, rfl, _, rfl, ifF (by decide +kernel) ⟨_, rfl, oA, _, rfl, .inr (R.oT _), rfl, rfl, _, rfl, ifT (by decide +kernel) ⟨_, rfl, _, rfl, _, rfl, _, rfl, st, .le, x, y, rfl, .inr (.inl rfl), rOp_c q rfl⟩⟩⟩⟩⟩
    | gt => exact ifF (by decide +kernel) ⟨_, rfl, rfl, _, rfl, ifF (by decide +kernel) ⟨_, rfl, rfl, _, rfl, ifF (by decide +kernel) ⟨_, rfl, rfl, _, rfl, ifF (by decide +kernel) ⟨_, rfl, oA, _, rfl, .inr (R.oT _), rfl, rfl, _, rfl, ifT (by decide +kernel) ⟨_, rfl, _, rfl, _, rfl, _, rfl, st, .gt, x, y, rfl, .inr (.inr (.inl rfl)), rOp_c q rfl⟩⟩⟩⟩⟩
    | ge => exact ifF (by decide +kernel) ⟨_, rfl, rfl, _, rfl, ifF (by decide +kernel) ⟨_, rfl, rfl, _, rfl, ifF (by decide +kernel) ⟨_, rfl, rfl, _, rfl, ifF (by decide +kernel) ⟨_, rfl, oA, _, rfl, .inr (R.oT _), rfl, rfl, _, rfl, ifT (by decide +kernel) ⟨_, rfl, _, rfl, _, rfl, _, rfl, st, .ge, x, y, rfl, .inr (.inr (.inr rfl)), rOp_c q rfl⟩⟩⟩⟩⟩
    | sub => exact ifF (by decide +kernel) ⟨_, rfl, rfl, _, rfl, ifF (by decide +kernel) ⟨_, rfl, rfl, _, rfl, ifF (by decide +kernel) ⟨_, rfl, rfl, _, rfl, ifF (by decide +kernel) ⟨_, rfl, oA, _, rfl, .inr (R.oT _), rfl, rfl, _, rfl, ifF (by decide +kernel) ⟨_, rfl, _, rfl, _, rfl, _, rfl, st, .sub, x, y, rfl, .inl rfl, hx, hy, q⟩⟩⟩⟩⟩
    | mul => exact ifF (by decide +kernel) ⟨_, rfl, rfl, _, rfl, ifF (by decide +kernel) ⟨_, rfl, rfl, _, rfl, ifF (by decide +kernel) ⟨_, rfl, rfl, _, rfl, ifF (by decide +kernel) ⟨_, rfl, oA, _, rfl, .inr (R.oT _), rfl, rfl, _, rfl, ifF (by decide +kernel) ⟨_, rfl, _, rfl, _, rfl, _, rfl, st, .mul, x, y, rfl, .inr (.inl rfl), hx, hy, q⟩⟩⟩⟩⟩
    | div => exact ifF (by decide +kernel) ⟨_, rfl, rfl, _, rfl, ifF (by decide +kernel) ⟨_, rfl, rfl, _, rfl, ifF (by decide +kernel) ⟨_, rfl, rfl, _, rfl, ifF (by decide +kernel) ⟨_, rfl, oA, _, rfl, .inr (R.oT _), rfl, rfl, _, rfl, ifF (by decide +kernel) ⟨_, rfl, _, rfl, _, rfl, _, rfl, st, .div, x, y, rfl, .inr (.inr (.inl rfl)), hx, hy, q⟩⟩⟩⟩⟩
    | mod => exact ifF (by decide +kernel) ⟨_, rfl, rfl, _, rfl, ifF (by decide +kernel) ⟨_, rfl, rfl, _, rfl, ifF (by decide +kernel) ⟨_, rfl, rfl, _, rfl, ifF (by decide +kernel) ⟨_, rfl, oA, _, rfl, .inr (R.oT _), rfl, rfl, _, rfl, ifF (by decide +kernel) ⟨_, rfl, _, rfl, _, rfl, _, rfl, st, .mod, x, y, rfl, .inr (.inr (.inr rfl)), hx, hy, q⟩⟩⟩⟩⟩
end
end My
namespace My
open PySem L2 SX XS
open C8 (pss_cut tCut cutS_slice pe_gc)
/-- what the written part says of Kin and Store -/
structure Ct (K : PySem.W.Frag) (mg : Str → Option Value) (cK cS : Addr) : Prop where
  pgK : PySem.W.plainGet K cK Str.empty = true
  hdK : PySem.W.hasDictIn K cK = true
  poK : PySem.W.plainOver K cK = true
  saK : PySem.W.findIn K (.ref cK) "__setattr__" = some (some (.builtin "object.__setattr__"))
  nK_name : PySem.W.findIn K (.ref cK) "name" = some none
  nK_parent : PySem.W.findIn K (.ref cK) "parent" = some none
  nK_methods : PySem.W.findIn K (.ref cK) "methods" = some none
  pgS : PySem.W.plainGet K cS Str.empty = true
  hdS : PySem.W.hasDictIn K cS = true
  poS : PySem.W.plainOver K cS = true
  saS : PySem.W.findIn K (.ref cS) "__setattr__" = some (some (.builtin "object.__setattr__"))
  nS_things : PySem.W.findIn K (.ref cS) "things" = some none
  nS_output : PySem.W.findIn K (.ref cS) "output" = some none
  nS_lines : PySem.W.findIn K (.ref cS) "lines" = some none
  nS_taken : PySem.W.findIn K (.ref cS) "taken" = some none
  gK : mg "Kin" = some (.ref cK)
  gS : mg "Store" = some (.ref cS)
section
variable {P : Program} {w : World} {K : PySem.W.Frag} {mg : Str → Option Value} {base : Heap} {cK cS : Addr}
theorem Ct.clK (T : Ct K mg cK cS) : Cls K cK := ⟨T.pgK, T.hdK, T.poK, T.saK⟩
theorem Ct.clS (T : Ct K mg cK cS) : Cls K cS := ⟨T.pgS, T.hdS, T.poS, T.saS⟩
abbrev sIK : Stmt := inClass (top 12) 0
abbrev sIS : Stmt := inClass (top 38) 0
theorem scIK : FnScope ["self", "name", "parent"] ["self", "name", "parent"] (defScope sIK) := ⟨rfl, rfl, rfl, by decide +kernel, rfl, by decide +kernel, by decide +kernel⟩
theorem scIS : FnScope ["self", "lines"] ["self", "lines"] (defScope sIS) := ⟨rfl, rfl, rfl, by decide +kernel, rfl, by decide +kernel, by decide +kernel⟩
def spIT (C : Addr) (n : Nat) : Sp := fun vs H Q _ => ∃ a dx rest, vs = V.ref a :: rest ∧ rest.length = n ∧ H a = some (.ins C dx []) ∧ ∀ H' fs, Keep a H H' → H' a = some (.ins C dx fs) → Q .non H'
theorem ok_IK {f : Addr} {fd : FuncData} (F : Fun K "__init__" "Kin.__init__" sIK f fd) (T : Ct K mg cK cS) : FnOk P w K mg base CX0 1 f fd ["self", "name", "parent"] (spIT cK 2) := by
  refine F.ok scIK (fun vs H Q E h => ?_) (fun cdv A outer s H vs Q E hr h => ?_)
  · obtain ⟨a, dx, rest, rfl, hl, _⟩ := h
    show rest.length + 1 = _
    rw [hl]
    rfl
  · obtain ⟨a, dx, rest, rfl, hl, ha, q⟩ := h
    obtain ⟨v1, v2, rfl⟩ : ∃ v1 v2, rest = [v1, v2] := by
      match rest, hl with
      | [v1, v2], _ => exact ⟨_, _, rfl⟩
    refine ⟨_, pss_cons (ps_fld (pv 0) (pv 1) rfl) (pss_cons (ps_fld (pv 0) (pv 2) rfl) (pss_one (ps_fld (pv 0) pe_dnewK rfl))), ?_⟩
    refine ⟨_, rfl, _, rfl, a, cK, dx, _, rfl, ha, T.clK, T.nK_name, (by show 0 < 1000; decide), ?_⟩
    refine ⟨_, rfl, _, rfl, a, cK, dx, _, rfl, upd_same, T.clK, T.nK_parent, (by show 1 < 1000; decide), ?_⟩
    refine fun m hm => ?_
    refine ⟨_, rfl, a, cK, dx, _, rfl, (by rw [upd_ne (ne_of_none upd_same hm)]; exact upd_same), T.clK, T.nK_methods, (by show 2 < 1000; decide), ?_⟩
    exact q _ _ (fun b o e n => by rw [upd_ne n, upd_ne (ne_of_none (H := upd (upd H a _) a _) (by rw [upd_ne n, upd_ne n]; exact e) hm), upd_ne n, upd_ne n]; exact e) upd_same
def stF (t o l : Addr) : List (Str × V) := [("things", .ref t), ("output", .ref o), ("lines", .ref l), ("taken", .int 0)]
def StoreAt (cS : Addr) (H : Hp) (s : Addr) : Prop := ∃ dx t o l x, H s = some (.ins cS dx (stF t o l)) ∧ H t = some (.lst [.ref x]) ∧ H o = some (.lst [])
theorem StoreAt.same {H H' : Hp} (k : Same H H') {s : Addr} (h : StoreAt cS H s) : StoreAt cS H' s := by
  obtain ⟨dx, t, o, l, x, h1, h2, h3⟩ := h
  exact ⟨dx, t, o, l, x, k _ _ h1, k _ _ h2, k _ _ h3⟩
def spIS (K : PySem.W.Frag) (cS : Addr) : Sp := fun vs H Q _ => ∃ a dx l xs, vs = [.ref a, .ref l] ∧ H a = some (.ins cS dx []) ∧ SqL K H l xs ∧ ∀ H', Keep a H H' → StoreAt cS H' a → Q .non H'
theorem ok_IS {f fK : Addr} {fd gK : FuncData} (F : Fun K "__init__" "Store.__init__" sIS f fd) (T : Ct K mg cK cS) (B : Bl mg) (M : Mk K cK fK) (FK : Fun K "__init__" "Kin.__init__" sIK fK gK) (bK : Binds K gK ["self", "name", "parent"] []) : FnOk P w K mg base CX0 3 f fd ["self", "lines"] (spIS K cS) := by
  have GK : FnOk P w K mg base CX0 1 fK gK ["self", "name", "parent"] (spIT cK 2) := ok_IK FK T
  refine F.ok scIS (fun vs H Q E h => ?_) (fun cdv A outer s H vs Q E hr h => ?_)
  · obtain ⟨a, dx, l, xs, rfl, _⟩ := h
    rfl
  · obtain ⟨a, dx, l, xs, rfl, ha, hl, q⟩ := h
    refine ⟨_, pss_cons (ps_fld (pv 0) (pe_lst (pa_cons (pe_make M GK hr (by rfl) T.gK bK .nil pass0 (pa_cons pe_str (pa_cons pe_non pa_nil))) pa_nil)) rfl)
      (pss_cons (ps_fld (pv 0) (pe_lst pa_nil) rfl) (pss_cons (ps_fld (pv 0) (pe_callTy call_list_of (by rfl) B.list (by decide +kernel) (pa_cons (pv 1) pa_nil)) rfl) (pss_one (ps_fld (pv 0) pe_int rfl)))), ?_⟩
    intro y dy ny ndy nyd
    refine ⟨y, dy, _, rfl, rfl, upd_same, fun H1 fs k1 hy => ⟨rfl, ?_⟩⟩
    have s1 : Same H H1 := Same.made ny ndy k1
    refine ⟨(by show 1 ≤ sizeLine; decide), fun t nt => ?_⟩
    have nt0 : H t = none := s1.free nt
    have ha1 := s1 _ _ ha
    have nat : a ≠ t := ne_of_none ha1 nt
    refine ⟨_, rfl, a, cS, dx, [], rfl, (by rw [upd_ne nat]; exact ha1), T.clS, T.nS_things, (by show 0 < 1000; decide), ?_⟩
    refine ⟨Nat.zero_le _, fun o no => ?_⟩
    have nao : a ≠ o := ne_of_none upd_same no
    refine ⟨_, rfl, a, cS, dx, _, rfl, (by rw [upd_ne nao]; exact upd_same), T.clS, T.nS_output, (by show 1 < 1000; decide), ?_⟩
    have hne : ∀ b ob, H b = some ob → b ≠ y ∧ b ≠ t ∧ (b ≠ a → b ≠ o) := fun b ob e => by
      have e1 := s1 _ _ e
      refine ⟨(fun z => by rw [z, ny] at e; cases e), (fun z => by rw [z, nt] at e1; cases e1), fun n z => ?_⟩
      subst z
      rw [upd_ne n, upd_ne (fun z => by rw [z, nt] at e1; cases e1)] at no
      rw [no] at e1
      cases e1
    have nyt : y ≠ t := ne_of_none hy nt
    have nya : y ≠ a := fun z => by rw [z, ha] at ny; cases ny
    have nyo : y ≠ o := fun z => by
      subst z
      rw [upd_ne nya, upd_ne nyt, hy] at no
      cases no
    have nto : t ≠ o := fun z => by
      subst z
      rw [upd_ne nat.symm, upd_same] at no
      cases no
    refine ⟨_, rfl, l, xs, rfl, .inl ?_, fun m hm => ?_⟩
    · have nl : ∀ ob, H l = some ob → ob ≠ .ins cS dx [] → (upd (upd (upd (upd H1 t (.lst [V.ref y])) a (.ins cS dx (putF "things" (V.ref t) []))) o (.lst [])) a (.ins cS dx (putF "output" (V.ref o) (putF "things" (V.ref t) [])))) l = some ob := fun ob e n => by
        have na : l ≠ a := fun z => n (by rw [z, ha] at e; exact (Option.some.inj e).symm)
        obtain ⟨_, n2, n3⟩ := hne _ _ e
        rw [upd_ne na, upd_ne (n3 na), upd_ne na, upd_ne n2]
        exact s1 _ _ e
      rcases hl with (hl | ⟨ob, hl⟩) | hl
      · exact .inl (.inl (nl _ hl nofun))
      · exact .inl (.inr ⟨ob, nl _ hl nofun⟩)
      · exact .inr hl
    · have nam : a ≠ m := ne_of_none upd_same hm
      refine ⟨_, rfl, a, cS, dx, _, rfl, (by rw [upd_ne nam]; exact upd_same), T.clS, T.nS_lines, (by show 2 < 1000; decide), ?_⟩
      refine ⟨_, rfl, a, cS, dx, _, rfl, upd_same, T.clS, T.nS_taken, (by show 3 < 1000; decide), ?_⟩
      have nym : y ≠ m := fun z => by
        subst z
        rw [upd_ne nya, upd_ne nyo, upd_ne nya, upd_ne nyt, hy] at hm
        cases hm
      have ntm : t ≠ m := fun z => by
        subst z
        rw [upd_ne nat.symm, upd_ne nto, upd_ne nat.symm, upd_same] at hm
        cases hm
      refine q _ (fun b ob e n => ?_) ⟨dx, t, o, m, y, ?_, ?_, ?_⟩
      · obtain ⟨_, n2, n3⟩ := hne _ _ e
        have nbm : b ≠ m := fun z => by
          subst z
          rw [upd_ne n, upd_ne (n3 n), upd_ne n, upd_ne n2, s1 _ _ e] at hm
          cases hm
        rw [upd_ne n, upd_ne n, upd_ne nbm, upd_ne n, upd_ne (n3 n), upd_ne n, upd_ne n2]
        exact s1 _ _ e
      · rw [upd_same]
        rfl
      · rw [upd_ne nat.symm, upd_ne nat.symm, upd_ne ntm, upd_ne nat.symm, upd_ne nto, upd_ne nat.symm, upd_same]
      · have nom : o ≠ m := fun z => by
          subst z
          rw [upd_ne nao.symm, upd_same] at hm
          cases hm
        rw [upd_ne nao.symm, upd_ne nao.symm, upd_ne nom, upd_ne nao.symm, upd_same]
end
/-! ### the draws -/
section
variable {P : Program} {w : World} {K : PySem.W.Frag} {mg : Str → Option Value} {base : Heap}
def StL (K : PySem.W.Frag) (H : Hp) (a p : Addr) (ns : List Int) : Prop := ∃ x k : Int, H p = some (.lst [.int x, .int k, .ref a]) ∧ 0 ≤ k ∧ SqL K H a (ns.map V.int)
theorem sql_keep {H H' : Hp} {a p : Addr} {x k : Int} {ns : List Int} (hk : Keep p H H') (hp : H p = some (.lst [.int x, .int k, .ref a])) (h : SqL K H a (ns.map V.int)) : SqL K H' a (ns.map V.int) := by
  rcases h with (h | ⟨ob, h⟩) | h
  · refine .inl (.inl (hk _ _ h fun z => ?_))
    rw [z, hp] at h
    have := Option.some.inj h
    injection this with e
    match ns, e with
    | [], e => cases e
    | [_], e => simp at e
    | [_, _], e => simp at e
    | _ :: _ :: _ :: _, e => simp at e
  · refine .inl (.inr ⟨ob, hk _ _ h fun z => ?_⟩)
    rw [z, hp] at h
    cases h
  · exact .inr h
theorem StL.same {H H' : Hp} {a p : Addr} {ns : List Int} (s : Same H H') (h : StL K H a p ns) : StL K H' a p ns := by
  obtain ⟨x, k, h1, h2, h3⟩ := h
  exact ⟨x, k, s _ _ h1, h2, s.seq h3⟩
abbrev sCell : Stmt := top 40
theorem scCell : FnScope ["script", "k"] ["script", "k"] (defScope sCell) := ⟨rfl, rfl, rfl, by decide +kernel, rfl, by decide +kernel, by decide +kernel⟩
def spCell (K : PySem.W.Frag) : Sp := fun vs H Q _ => ∃ (a : Addr) (ns : List Int) (k : Int), vs = [.ref a, .int k] ∧ SqL K H a (ns.map V.int) ∧ 0 ≤ k ∧ ∀ c : Int, Q (.int c) H
theorem ok_cell {f : Addr} {fd : FuncData} (F : Fun K "_law_cell" "_law_cell" sCell f fd) (B : Bl mg) : FnOk P w K mg base CX0 1 f fd ["script", "k"] (spCell K) := by
  refine F.ok scCell (fun vs H Q E h => ?_) (fun cdv A outer s H vs Q E hr h => ?_)
  · obtain ⟨a, ns, k, rfl, _⟩ := h
    rfl
  · obtain ⟨a, ns, k, rfl, hS, h0, q⟩ := h
    refine ⟨_, pss_cons (ps_if (pt_cmpR op_lt (pv 1) (pe_callB call_len_seq (by rfl) B.len PySem.boot_len (pa_cons (pv 0) pa_nil)) (nomark _))
        (pss_one (ps_ret (pe_ix ix_list (pv 0) (pv 1) (fun _ _ => rfl))))
        pss_nil)
      (pss_one (ps_ret pe_int)), ?_⟩
    refine ⟨_, rfl, _, rfl, a, _, rfl, .inl hS, _, _, rfl, rfl, _, rfl, ite2 (fun e => ?_) (fun e => q 0)⟩
    have e1 : k < ((ns.map V.int).length : Nat) := of_decide_eq_true e
    obtain ⟨j, rfl⟩ : ∃ j : Nat, k = (j : Int) := ⟨k.toNat, by omega⟩
    have hj : j < ns.length := by
      rw [List.length_map] at e1
      omega
    refine ⟨_, rfl, _, rfl, a, _, _, V.int ns[j], rfl, rfl, hS, atI_nat ?_, q _⟩
    rw [List.getElem?_map, List.getElem?_eq_getElem hj]
    rfl
abbrev sBegin : Stmt := top 42
theorem scBegin : FnScope ["script", "k"] ["script", "k"] (defScope sBegin) := ⟨rfl, rfl, rfl, by decide +kernel, rfl, by decide +kernel, by decide +kernel⟩
def spBegin (K : PySem.W.Frag) : Sp := fun vs H Q _ => ∃ (a : Addr) (ns : List Int), vs = [.ref a, .int 0] ∧ SqL K H a (ns.map V.int) ∧ ∀ H' p, H p = none → Same H H' → StL K H' a p ns → Q (.ref p) H'
theorem ok_begin {f : Addr} {fd : FuncData} (F : Fun K "_law_begin" "_law_begin" sBegin f fd) : FnOk P w K mg base CX0 1 f fd ["script", "k"] (spBegin K) := by
  refine F.ok scBegin (fun vs H Q E h => ?_) (fun cdv A outer s H vs Q E hr h => ?_)
  · obtain ⟨a, ns, rfl, _⟩ := h
    rfl
  · obtain ⟨a, ns, rfl, hS, q⟩ := h
    refine ⟨_, pss_one (ps_ret (pe_lst (pa_cons pe_int (pa_cons (pv 1) (pa_cons (pv 0) pa_nil))))), ?_⟩
    refine ⟨_, rfl, _, rfl, (by show 3 ≤ sizeLine; decide), fun p hp => q _ p hp (same_upd hp) ⟨0, 0, upd_same, by decide, (same_upd hp).seq hS⟩⟩
abbrev sDraw : Stmt := top 43
theorem scDraw : FnScope ["state", "many", "k", "cell", "prime", "mixed", "digit"] ["state", "many"] (defScope sDraw) := ⟨rfl, rfl, rfl, by decide +kernel, rfl, by decide +kernel, by decide +kernel⟩
def spDraw (K : PySem.W.Frag) : Sp := fun vs H Q _ => ∃ (a p : Addr) (ns : List Int) (many : Int), vs = [.ref p, .int many] ∧ StL K H a p ns ∧ 0 < many ∧ many.natAbs < 2 ^ 80 ∧ ∀ H' (r : Int), Keep p H H' → StL K H' a p ns → 0 ≤ r → r < many → Q (.int r) H'
theorem ok_draw {f fC : Addr} {fd gC : FuncData} (F : Fun K "_law_draw" "_law_draw" sDraw f fd) (B : Bl mg) (FC : Fun K "_law_cell" "_law_cell" sCell fC gC) (bC : Binds K gC ["script", "k"] []) (mC : mg "_law_cell" = some (.ref fC)) : FnOk P w K mg base CX0 2 f fd ["state", "many"] (spDraw K) := by
  have GC : FnOk P w K mg base CX0 1 fC gC ["script", "k"] (spCell K) := ok_cell FC B
  refine F.ok scDraw (fun vs H Q E h => ?_) (fun cdv A outer s H vs Q E hr h => ?_)
  · obtain ⟨a, p, ns, many, rfl, _⟩ := h
    rfl
  · obtain ⟨a, p, ns, many, rfl, ⟨x, k, hp, hk, hS⟩, h0, h1, q⟩ := h
    refine ⟨_, pss_cut (ps_if (pt_cmpR op_lt (pe_ix ix_list (pv 0) pe_int (fun _ _ => rfl)) (pv 1) (nomark _))
        (pss_cons (ps_set (i := 2) scDraw.nd rfl (.inl rfl) (pe_ix ix_list (pv 0) pe_int (fun _ _ => rfl)))
        (pss_cons (ps_set (i := 3) scDraw.nd rfl (.inl rfl) (pe_call GC hr (by rfl) mC FC.kp bC .nil pass0 (pa_cons (pe_ix ix_list (pv 0) pe_int (fun _ _ => rfl)) (pa_cons (pv 2) pa_nil))))
        (pss_cons (ps_set (i := 4) scDraw.nd rfl (.inl rfl) pe_int)
        (pss_cons (ps_asg (pe_op op_add (pv 2) pe_int) (pg_sub (pv 0) pe_int set_list))
        (pss_cons (ps_asg (pe_callB call_abs (by rfl) B.abs (by decide +kernel) (pa_cons (pv 3) pa_nil)) (pg_sub (pv 0) pe_int set_list))
        (pss_one (ps_if (pt_chain op_lt op_lt (pe_un un_neg pe_int) (pv 3) pe_int)
          (pss_cons (ps_set (i := 5) scDraw.nd rfl (.inl rfl) (pe_op op_mod (pe_callTy call_int1 (by rfl) B.int (by decide +kernel) (pa_cons (pe_op op_add (pe_op op_mul (pv 3) pe_int) (pe_op op_mul (pe_op op_add (pv 2) pe_int) pe_int)) pa_nil)) (pv 4)))
          (pss_one (ps_asg (pe_op op_add (pe_op op_mod (pe_callTy call_int1 (by rfl) B.int (by decide +kernel) (pa_cons (pe_op op_add (pe_op op_add (pe_op op_mulW (pv 5) (pv 5)) (pe_op op_mul pe_int (pv 5))) (pv 2)) pa_nil)) (pv 4)) (pv 4)) (pg_sub (pv 0) pe_int set_list))))
          pss_nil)))))))
        pss_nil)
      (pss_cons (ps_set (i := 6) scDraw.nd rfl (.inl rfl) (pe_op op_mod (pe_callTy call_int1 (by rfl) B.int (by decide +kernel) (pa_cons (pe_ix ix_list (pv 0) pe_int (fun _ _ => rfl)) pa_nil)) (pv 1)))
      (pss_cons (ps_asg (pe_op op_fdivW (pe_ix ix_list (pv 0) pe_int (fun _ _ => rfl)) (pv 1)) (pg_sub (pv 0) pe_int set_list))
      (pss_one (ps_ret (pv 6))))), ?_⟩
    let M : List (Option V) → Hp → Prop := fun σ' H' => ∃ (y2 y3 y4 y5 : Option V) (x k : Int), σ' = [some (.ref p), some (.int many), y2, y3, y4, y5, none] ∧ Keep p H H' ∧ H' p = some (.lst [.int x, .int k, .ref a]) ∧ 0 ≤ k
    refine ⟨M, ⟨_, rfl, p, _, _, _, rfl, rfl, SqL.of hp, rfl, _, rfl, _, _, rfl, rfl, _, rfl, ite2 (fun e => ?_) (fun e => ⟨none, none, none, none, x, k, rfl, fun _ _ e _ => e, hp, hk⟩)⟩, ?_⟩
    · refine ⟨_, rfl, p, _, _, _, rfl, rfl, SqL.of hp, rfl, ?_⟩
      refine ⟨_, rfl, p, _, _, _, rfl, rfl, SqL.of hp, rfl, _, rfl, a, ns, k, rfl, hS, hk, fun cell => ?_⟩
      refine ⟨_, rfl, _, _, rfl, rfl, _, rfl, p, _, _, _, rfl, rfl, hp, rfl, ?_⟩
      refine ⟨_, rfl, _, rfl, _, rfl, p, _, _, _, rfl, rfl, upd_same, rfl, ?_⟩
      have fin : ∀ (z z' : Int) (Hx : Hp), Keep p H Hx → Keep p H (upd Hx p (.lst [.int z, .int z', .ref a])) := fun z z' Hx kx b o e n => by
        rw [upd_ne n]
        exact kx b o e n
      have k0 : Keep p H H := fun _ _ e _ => e
      have kA := fin x (k + 1) H k0
      have kB := fin (if cell < 0 then -cell else cell) (k + 1) _ kA
      have eB : upd (upd H p (.lst [.int x, .int (k + 1), .ref a])) p (.lst [.int (if cell < 0 then -cell else cell), .int (k + 1), .ref a]) p = some (.lst [.int (if cell < 0 then -cell else cell), .int (k + 1), .ref a]) := upd_same
      have done : ∀ (y5 : Option V) (z : Int) (Hx : Hp), Keep p H Hx → Hx p = some (.lst [.int z, .int (k + 1), .ref a]) → M [some (.ref p), some (.int many), some (.int k), some (.int cell), some (.int 618970019642690137449562111), y5, none] Hx := fun y5 z Hx k1 e1 => ⟨_, _, _, _, z, k + 1, rfl, k1, e1, by omega⟩
      refine ⟨_, rfl, _, rfl, _, _, rfl, rfl, _, rfl, ite2 (fun e1 => ⟨_, _, rfl, rfl, _, rfl, ite2 (fun e2 => ?_) (fun _ => done none _ _ kB eB)⟩) (fun _ => ⟨_, rfl, iteF (done none _ _ kB eB)⟩)⟩
      refine ⟨_, rfl, _, _, rfl, rfl, .inr ⟨by decide, by decide⟩, _, rfl, _, _, rfl, rfl, _, _, rfl, rfl, .inr ⟨by decide, by decide⟩, _, _, rfl, rfl, .inl ⟨_, rfl, _, rfl, _, _, rfl, rfl, (by show (0 : Int) < 618970019642690137449562111; decide), ?_⟩⟩
      dsimp only
      have m0 : 0 ≤ (cell * 2654435761 + (k + 1) * 6700417) % 618970019642690137449562111 := Int.emod_nonneg _ (by decide)
      have m1 : (cell * 2654435761 + (k + 1) * 6700417) % 618970019642690137449562111 < 618970019642690137449562111 := Int.emod_lt_of_pos _ (by decide)
      generalize (cell * 2654435761 + (k + 1) * 6700417) % 618970019642690137449562111 = mx at m0 m1 ⊢
      have mb : mx.natAbs < 2 ^ 90 := by
        have : (2 : Nat) ^ 90 = 1237940039285380274899124224 := by decide
        omega
      refine ⟨_, rfl, _, rfl, _, _, rfl, rfl, wide_mul mb mb (by decide) (by decide) (by decide), _, rfl, _, _, rfl, rfl, .inl ⟨by decide, by decide⟩, _, _, rfl, rfl, _, rfl, _, _, rfl, rfl, .inl ⟨_, rfl, _, rfl, _, _, rfl, rfl, (by show (0 : Int) < 618970019642690137449562111; decide), _, rfl, _, _, rfl, rfl, _, rfl, p, _, _, _, rfl, rfl, eB, rfl, ?_⟩⟩
      exact done _ _ _ (fin _ _ _ kB) upd_same
    rintro σ' H' ⟨y2, y3, y4, y5, x', k', rfl, k1, hp', hk'⟩
    refine ⟨_, rfl, p, _, _, _, rfl, rfl, SqL.of hp', rfl, .inl ⟨_, rfl, _, rfl, _, _, rfl, rfl, h0, ?_⟩⟩
    refine ⟨_, rfl, p, _, _, _, rfl, rfl, SqL.of hp', rfl, _, rfl, _, _, rfl, rfl, wide_div h0 h1 (by decide) (by decide), _, rfl, p, _, _, _, rfl, rfl, hp', rfl, ?_⟩
    have k2 : Keep p H (upd H' p (.lst [.int (x' / many), .int k', .ref a])) := fun b o e n => by
      rw [upd_ne n]
      exact k1 b o e n
    exact ⟨_, rfl, q _ _ k2 ⟨_, k', upd_same, hk', sql_keep k2 hp hS⟩ (Int.emod_nonneg _ (by omega)) (Int.emod_lt_of_pos _ h0)⟩
end
end My
namespace My
open PySem L2 SX XS
open C8 (pss_cut tCut cutS_slice pe_gc)
section
variable {P : Program} {w : World} {K : PySem.W.Frag} {mg : Str → Option Value} {base : Heap} {cK cS : Addr}
abbrev sGreatest : Stmt := top 44
abbrev sNumber : Stmt := top 45
theorem scGreatest : FnScope ["number", "k"] [] (defScope sGreatest) := ⟨rfl, rfl, rfl, by decide +kernel, rfl, by decide +kernel, by decide +kernel⟩
def spGreatest : Sp := fun vs H Q _ => vs = [] ∧ Q (.int big) H
def tP (i : Nat) : Int := (1000000000000000000000000000000 : Int) ^ i
theorem tP_lt {i : Nat} (h : i ≤ 10) : (tP i).natAbs < 2 ^ 997 := by
  unfold tP
  rw [Int.natAbs_pow]
  refine Nat.lt_of_le_of_lt (Nat.pow_le_pow_right (by decide) h) (by decide +kernel)
theorem tP_ten : tP 10 = (big : Int) := by
  unfold tP big
  decide +kernel
theorem ok_greatest {f : Addr} {fd : FuncData} (F : Fun K "_law_greatest" "_law_greatest" sGreatest f fd) (B : Bl mg) : FnOk P w K mg base CX0 1 f fd [] spGreatest := by
  refine F.ok scGreatest (fun vs H Q E h => ?_) (fun cdv A outer s H vs Q E hr h => ?_)
  · obtain ⟨rfl, _⟩ := h
    rfl
  · obtain ⟨rfl, q⟩ := h
    refine ⟨_, pss_cons (ps_set (i := 0) scGreatest.nd rfl (.inl rfl) pe_int)
      (pss_cons (ps_for PassesOwn.never rfl (pi_range1 (by rfl) B.range (pa_cons pe_int pa_nil)) (pg_name (i := 1) scGreatest.nd rfl (.inl rfl)) (pss_one (ps_set (i := 0) scGreatest.nd rfl (.inl rfl) (pe_op op_mulW (pv 0) pe_int))))
      (pss_one (ps_ret (pv 0)))), ?_⟩
    refine ⟨10, rfl, by decide, by decide, for_range (n := 10) (fun i σ H' => ∃ y : Option V, σ = [some (.int (tP i)), y] ∧ H' = H) ⟨none, rfl, rfl⟩ ?_ ?_⟩
    · rintro i σ H' hi ⟨y, rfl, rfl⟩
      refine ⟨_, rfl, _, _, rfl, rfl, wide_mul (tP_lt (by omega)) (b := 100) (by decide +kernel) (by decide) (by decide) (by decide), ?_⟩
      refine ⟨some (.int (0 + i)), ?_, rfl⟩
      have e : tP i * 1000000000000000000000000000000 = tP (i + 1) := by
        unfold tP
        rw [Int.pow_succ]
      show [some (V.int (tP i * 1000000000000000000000000000000)), _] = _
      rw [e]
    · rintro σ H' ⟨y, rfl, rfl⟩
      refine ⟨_, rfl, ?_⟩
      rw [tP_ten]
      exact q
theorem scNumber : FnScope ["state", "kind", "number", "k"] ["state"] (defScope sNumber) := ⟨rfl, rfl, rfl, by decide +kernel, rfl, by decide +kernel, by decide +kernel⟩
def spNumber (K : PySem.W.Frag) : Sp := fun vs H Q _ => ∃ (a p : Addr) (ns : List Int), vs = [.ref p] ∧ StL K H a p ns ∧ ∀ H' n, Keep p H H' → StL K H' a p ns → n.natAbs < big → Q (.int n) H'
/-- where the law's first defs stand -/
structure Ld (K : PySem.W.Frag) (mg : Str → Option Value) (lC lB lD lG : Addr) (hC hB hD hG : FuncData) : Prop where
  fC : Fun K "_law_cell" "_law_cell" sCell lC hC
  bC : Binds K hC ["script", "k"] []
  gC : mg "_law_cell" = some (.ref lC)
  fB : Fun K "_law_begin" "_law_begin" sBegin lB hB
  bB : Binds K hB ["script", "k"] []
  gB : mg "_law_begin" = some (.ref lB)
  fD : Fun K "_law_draw" "_law_draw" sDraw lD hD
  bD : Binds K hD ["state", "many"] []
  gD : mg "_law_draw" = some (.ref lD)
  fG : Fun K "_law_greatest" "_law_greatest" sGreatest lG hG
  bG : Binds K hG [] []
  gG : mg "_law_greatest" = some (.ref lG)
variable {lC lB lD lG : Addr} {hC hB hD hG : FuncData}
theorem Ld.draw (L : Ld K mg lC lB lD lG hC hB hD hG) (B : Bl mg) : FnOk P w K mg base CX0 2 lD hD ["state", "many"] (spDraw K) := ok_draw L.fD B L.fC L.bC L.gC
theorem Ld.great (L : Ld K mg lC lB lD lG hC hB hD hG) (B : Bl mg) : FnOk P w K mg base CX0 1 lG hG [] spGreatest := ok_greatest L.fG B
theorem hun_lt {n i : Nat} (h : n < 100000000000000000000 ^ (i + 1)) (hi : i ≤ 15) : n < 2 ^ 1100 :=
  Nat.lt_of_lt_of_le h (Nat.le_trans (Nat.pow_le_pow_right (by decide) (show i + 1 ≤ 16 by omega)) (by decide +kernel))
theorem hun_step {n d i : Nat} (h : n < 100000000000000000000 ^ (i + 1)) (hd : d < 100000000000000000000) : n * 100000000000000000000 + d < 100000000000000000000 ^ (i + 1 + 1) := by
  rw [Nat.pow_succ]
  have : (n + 1) * 100000000000000000000 ≤ 100000000000000000000 ^ (i + 1) * 100000000000000000000 := Nat.mul_le_mul_right _ h
  omega
theorem ok_number {f : Addr} {fd : FuncData} (F : Fun K "_law_number" "_law_number" sNumber f fd) (B : Bl mg) (L : Ld K mg lC lB lD lG hC hB hD hG) : FnOk P w K mg base CX0 3 f fd ["state"] (spNumber K) := by
  have GD := L.draw (P := P) (w := w) (base := base) B
  have GG := L.great (P := P) (w := w) (base := base) B
  refine F.ok scNumber (fun vs H Q E h => ?_) (fun cdv A outer s H vs Q E hr h => ?_)
  · obtain ⟨a, p, ns, rfl, _⟩ := h
    rfl
  · obtain ⟨a, p, ns, rfl, st, q⟩ := h
    have h1 : Room 1 _ := hr.mono (by decide)
    refine ⟨_, pss_cons (ps_set (i := 1) scNumber.nd rfl (.inl rfl) (pe_call GD hr (by rfl) L.gD L.fD.kp L.bD .nil pass0 (pa_cons (pv 0) (pa_cons pe_int pa_nil))))
      (pss_cons (ps_set (i := 2) scNumber.nd rfl (.inl rfl) (pe_call GD hr (by rfl) L.gD L.fD.kp L.bD .nil pass0 (pa_cons (pv 0) (pa_cons pe_int pa_nil))))
      (pss_cut (ps_if (pt_cmpR op_eq (pv 1) pe_int (nomark _))
        (pss_one (ps_set (i := 2) scNumber.nd rfl (.inl rfl) (pe_op op_sub (pe_op op_sub (pe_call0 GG h1 (by rfl) L.gG L.fG.kp L.bG .nil pass0) pe_int) (pe_call GD hr (by rfl) L.gD L.fD.kp L.bD .nil pass0 (pa_cons (pv 0) (pa_cons pe_int pa_nil))))))
        (pss_one (ps_if (pt_cmpR op_eq (pv 1) pe_int (nomark _))
          (pss_cons (ps_for PassesOwn.never rfl (pi_range1 (by rfl) B.range (pa_cons (pe_op op_add pe_int (pe_call GD hr (by rfl) L.gD L.fD.kp L.bD .nil pass0 (pa_cons (pv 0) (pa_cons pe_int pa_nil)))) pa_nil)) (pg_name (i := 3) scNumber.nd rfl (.inl rfl))
            (pss_one (ps_set (i := 2) scNumber.nd rfl (.inl rfl) (pe_op op_add (pe_op op_mulW (pv 2) pe_int) (pe_call GD hr (by rfl) L.gD L.fD.kp L.bD .nil pass0 (pa_cons (pv 0) (pa_cons pe_int pa_nil)))))))
          (pss_one (ps_set (i := 2) scNumber.nd rfl (.inl rfl) (pe_op op_mod (pe_callTy call_int1 (by rfl) B.int (by decide +kernel) (pa_cons (pv 2) pa_nil)) (pe_call0 GG h1 (by rfl) L.gG L.fG.kp L.bG .nil pass0)))))
          (pss_one (ps_if (pt_cmpR op_eq (pv 1) pe_int (nomark _))
            (pss_one (ps_set (i := 2) scNumber.nd rfl (.inl rfl) (pe_call GD hr (by rfl) L.gD L.fD.kp L.bD .nil pass0 (pa_cons (pv 0) (pa_cons pe_int pa_nil)))))
            (pss_one (ps_if (pt_cmpR op_eq (pv 1) pe_int (nomark _)) (pss_one (ps_set (i := 2) scNumber.nd rfl (.inl rfl) pe_int)) pss_nil)))))))
      (pss_cut (ps_if (pt_cmpR op_eq (pe_call GD hr (by rfl) L.gD L.fD.kp L.bD .nil pass0 (pa_cons (pv 0) (pa_cons pe_int pa_nil))) pe_int (nomark _)) (pss_one (ps_set (i := 2) scNumber.nd rfl (.inl rfl) (pe_un un_neg (pv 2)))) pss_nil)
      (pss_one (ps_ret (pv 2)))))), ?_⟩
    refine ⟨_, rfl, a, p, ns, 7, rfl, st, by decide, by decide, fun H1 kind k1 st1 _ _ => ?_⟩
    refine ⟨_, rfl, a, p, ns, 20, rfl, st1, by decide, by decide, fun H2 n0 k2 st2 n0l n0h => ?_⟩
    have k12 := k1.trans k2
    let M : List (Option V) → Hp → Prop := fun σ' H' => ∃ (n : Int) (y3 : Option V), σ' = [some (.ref p), some (.int kind), some (.int n), y3] ∧ Keep p H H' ∧ StL K H' a p ns ∧ n.natAbs < big
    have sb : ∀ {n : Int}, 0 ≤ n → n < 1000000000000000000000000000000 → n.natAbs < big := fun h0 h1 => small_big (by omega)
    refine ⟨M, ⟨_, rfl, rfl, _, rfl, ?_⟩, ?_⟩
    · refine ite2 (fun _ => ?_) (fun _ => ⟨_, rfl, rfl, _, rfl, ite2 (fun _ => ?_) (fun _ => ⟨_, rfl, rfl, _, rfl, ite2 (fun _ => ?_) (fun _ => ⟨_, rfl, rfl, _, rfl, ite2 (fun _ => ?_) (fun _ => ?_)⟩)⟩)⟩)
      · refine ⟨rfl, _, _, rfl, rfl, _, rfl, a, p, ns, 3, rfl, st2, by decide, by decide, fun H3 d k3 st3 dl dh => ?_⟩
        refine ⟨_, _, rfl, rfl, _, _, rfl, k12.trans k3, st3, ?_⟩
        have : (4 : Nat) < big := small_big (by decide)
        omega
      · refine ⟨_, rfl, a, p, ns, 15, rfl, st2, by decide, by decide, fun H3 c k3 st3 cl ch => ?_⟩
        refine ⟨_, _, rfl, rfl, 1 + c, rfl, by omega, by omega, for_range (n := (1 + c).toNat) (fun i σ H' => ∃ (n : Nat) (y3 : Option V), σ = [some (.ref p), some (.int kind), some (.int n), y3] ∧ Keep p H H' ∧ StL K H' a p ns ∧ n < 100000000000000000000 ^ (i + 1)) ⟨n0.toNat, none, ?_, k12.trans k3, st3, by omega⟩ ?_ ?_⟩
        · rw [show ((n0.toNat : Nat) : Int) = n0 by omega]
          rfl
        · rintro i σ H' hi ⟨n, y3, rfl, k4, st4, hn⟩
          refine ⟨_, rfl, _, _, rfl, rfl, wide_mul (a := 1100) (b := 100) (by have := hun_lt hn (by omega); omega) (by decide +kernel) (by decide) (by decide) (by decide), _, rfl, a, p, ns, 100000000000000000000, rfl, st4, by decide, by decide +kernel, fun H5 d k5 st5 dl dh => ?_⟩
          refine ⟨_, _, rfl, rfl, n * 100000000000000000000 + d.toNat, some (.int (0 + i)), ?_, k4.trans k5, st5, hun_step hn (by omega)⟩
          rw [show ((n * 100000000000000000000 + d.toNat : Nat) : Int) = (n : Int) * 100000000000000000000 + d by omega]
          rfl
        · rintro σ H' ⟨n, y3, rfl, k4, st4, hn⟩
          refine ⟨_, rfl, .inl ⟨_, rfl, rfl, _, _, rfl, rfl, (by have : (4 : Nat) < big := small_big (by decide); show (0 : Int) < big; omega), _, _, rfl, k4, st4, ?_⟩⟩
          have hb : (0 : Int) < big := by have : (4 : Nat) < big := small_big (by decide); omega
          have e1 := Int.emod_nonneg (n : Int) (show (big : Int) ≠ 0 by omega)
          have e2 := Int.emod_lt_of_pos (n : Int) hb
          omega
      · refine ⟨_, rfl, a, p, ns, 1000000, rfl, st2, by decide, by decide, fun H3 d k3 st3 dl dh => ⟨_, _, rfl, k12.trans k3, st3, sb dl (by omega)⟩⟩
      · exact ⟨_, _, rfl, k12, st2, sb (by decide) (by decide)⟩
      · exact ⟨_, _, rfl, k12, st2, sb n0l (by omega)⟩
    rintro σ' H3 ⟨n, y3, rfl, k3, st3, hn⟩
    let M2 : List (Option V) → Hp → Prop := fun σ' H' => ∃ (n : Int), σ' = [some (.ref p), some (.int kind), some (.int n), y3] ∧ Keep p H H' ∧ StL K H' a p ns ∧ n.natAbs < big
    refine ⟨M2, ⟨_, rfl, a, p, ns, 3, rfl, st3, by decide, by decide, fun H4 d k4 st4 _ _ => ⟨rfl, _, rfl, ite2 (fun _ => ⟨_, rfl, _, rfl, -n, rfl, k3.trans k4, st4, by omega⟩) (fun _ => ⟨n, rfl, k3.trans k4, st4, hn⟩)⟩⟩, ?_⟩
    rintro σ' H4 ⟨n', rfl, k4, st4, hn'⟩
    exact ⟨_, rfl, q _ _ k4 st4 hn'⟩
end
end My
namespace My
open PySem L2 SX XS
open C8 (pss_cut tCut cutS_slice pe_gc)
section
variable {P : Program} {w : World} {K : PySem.W.Frag} {mg : Str → Option Value} {base : Heap} {cK cS cE cL cW fI : Addr} {gE : FuncData} {lC lB lD lG : Addr} {hC hB hD hG : FuncData}
abbrev sIsInteger : Stmt := top 41
abbrev sTold : Stmt := top 46
abbrev sDue : Stmt := top 47
abbrev sCompared : Stmt := top 48
theorem scIsInteger : FnScope ["told"] ["told"] (defScope sIsInteger) := ⟨rfl, rfl, rfl, by decide +kernel, rfl, by decide +kernel, by decide +kernel⟩
def spIsInteger : Sp := fun vs H Q _ => ∃ i : Int, vs = [.int i] ∧ Q (.bl true) H
theorem ok_is_integer {f : Addr} {fd : FuncData} (F : Fun K "_law_is_integer" "_law_is_integer" sIsInteger f fd) (B : Bl mg) : FnOk P w K mg base CX0 1 f fd ["told"] spIsInteger := by
  refine F.ok scIsInteger (fun vs H Q E h => ?_) (fun cdv A outer s H vs Q E hr h => ?_)
  · obtain ⟨i, rfl, _⟩ := h
    rfl
  · obtain ⟨i, rfl, q⟩ := h
    refine ⟨_, pss_one (ps_ret (pe_and (pe_callB call_isi (by rfl) B.isinstance (by decide +kernel) (pa_cons (pv 0) (pa_cons (pe_bltn (v := .ty "int") (by rfl) B.int (by decide +kernel) rfl) pa_nil))) (pe_one (pe_not (pe_callB call_isi (by rfl) B.isinstance (by decide +kernel) (pa_cons (pv 0) (pa_cons (pe_bltn (v := .ty "bool") (by rfl) B.bool (by decide +kernel) rfl) pa_nil))))))), ?_⟩
    exact ⟨_, rfl, _, .ty "int", _, _, true, rfl, .ty _, .base (.int _), kit_int_int, _, rfl, iteT ⟨_, rfl, _, .ty "bool", _, _, false, rfl, .ty _, .base (.int _), kit_int_bool, _, rfl, q⟩⟩
theorem scCompared : FnScope ["operator", "x", "y"] ["operator", "x", "y"] (defScope sCompared) := ⟨rfl, rfl, rfl, by decide +kernel, rfl, by decide +kernel, by decide +kernel⟩
def spCompared : Sp := fun vs H Q _ => ∃ (o : Op) (x y : Int), vs = [.str o.nm, .int x, .int y] ∧ o.isA = false ∧ Q (.bl (comp o x y)) H
theorem ok_compared {f : Addr} {fd : FuncData} (F : Fun K "_law_compared" "_law_compared" sCompared f fd) : FnOk P w K mg base CX0 1 f fd ["operator", "x", "y"] spCompared := by
  refine F.ok scCompared (fun vs H Q E h => ?_) (fun cdv A outer s H vs Q E hr h => ?_)
  · obtain ⟨o, x, y, rfl, _⟩ := h
    rfl
  · obtain ⟨o, x, y, rfl, ho, q⟩ := h
    refine ⟨_, pss_cons (ps_if (pt_cmpR op_eq (pv 0) pe_str (nomark _)) (pss_one (ps_ret (pe_cmpR op_lt (pv 1) (pv 2) (nomark _)))) pss_nil)
      (pss_cons (ps_if (pt_cmpR op_eq (pv 0) pe_str (nomark _)) (pss_one (ps_ret (pe_cmpR op_le (pv 1) (pv 2) (nomark _)))) pss_nil)
      (pss_cons (ps_if (pt_cmpR op_eq (pv 0) pe_str (nomark _)) (pss_one (ps_ret (pe_cmpR op_gt (pv 1) (pv 2) (nomark _)))) pss_nil)
      (pss_cons (ps_if (pt_cmpR op_eq (pv 0) pe_str (nomark _)) (pss_one (ps_ret (pe_cmpR op_ge (pv 1) (pv 2) (nomark _)))) pss_nil)
      (pss_one (ps_ret (pe_cmpR op_eq (pe_cmpR op_eq (pv 1) (pv 2) (nomark _)) (pe_cmpR op_eq (pv 0) pe_str (nomark _)) (nomark _))))))), ?_⟩
    refine ⟨_, rfl, rfl, _, rfl, ?_⟩
    cases o with
    | lt => exact ifT (by decide +kernel) ⟨_, rfl, _, rfl, _, _, rfl, rfl, q⟩
    | le => exact ifF (by decide +kernel) ⟨_, rfl, rfl, _, rfl, ifT (by decide +kernel) ⟨_, rfl, _, rfl, _, _, rfl, rfl, q⟩⟩
    | gt => exact ifF (by decide +kernel) ⟨_, rfl, rfl, _, rfl, ifF (by decide +kernel) ⟨_, rfl, rfl, _, rfl, ifT (by decide +kernel) ⟨_, rfl, _, rfl, _, _, rfl, rfl, q⟩⟩⟩
    | ge => exact ifF (by decide +kernel) ⟨_, rfl, rfl, _, rfl, ifF (by decide +kernel) ⟨_, rfl, rfl, _, rfl, ifF (by decide +kernel) ⟨_, rfl, rfl, _, rfl, ifT (by decide +kernel) ⟨_, rfl, _, rfl, _, _, rfl, rfl, q⟩⟩⟩⟩
    | eq =>
      refine ifF (by decide +kernel) ⟨_, rfl, rfl, _, rfl, ifF (by decide +kernel) ⟨_, rfl, rfl, _, rfl, ifF (by decide +kernel) ⟨_, rfl, rfl, _, rfl, ifF (by decide +kernel) ⟨_, rfl, _, rfl, rfl, _, rfl, rfl, rfl, ?_⟩⟩⟩⟩
      rw [show decide (V.bl (decide (V.int x = V.int y)) = V.bl (decide (V.str (Op.nm .eq) = V.str "=="))) = comp .eq x y by
        rw [show decide (V.str (Op.nm .eq) = V.str "==") = true by decide +kernel]
        simp [comp]]
      exact q
    | ne =>
      refine ifF (by decide +kernel) ⟨_, rfl, rfl, _, rfl, ifF (by decide +kernel) ⟨_, rfl, rfl, _, rfl, ifF (by decide +kernel) ⟨_, rfl, rfl, _, rfl, ifF (by decide +kernel) ⟨_, rfl, _, rfl, rfl, _, rfl, rfl, rfl, ?_⟩⟩⟩⟩
      rw [show decide (V.bl (decide (V.int x = V.int y)) = V.bl (decide (V.str (Op.nm .ne) = V.str "=="))) = comp .ne x y by
        rw [show decide (V.str (Op.nm .ne) = V.str "==") = false by decide +kernel]
        by_cases h : x = y <;> simp [comp, h]]
      exact q
    | _ => cases ho
/-- what the law's pair or triple says -/
def outV (o : Op) (x y : Int) : List V := if zdiv o y = true then [.str "raised", .str "ZeroDivisionError", .str "division by zero"] else if (reck o x y).natAbs < big then [.str "told", .int (reck o x y)] else [.str "raised", .str "OverflowError", .str "the integer is too large"]
def toldV (o : Op) (x y : Int) : List V := if o.isA = true then outV o x y else [.str "told", .bl (comp o x y)]
theorem scDue : FnScope ["operator", "x", "y", "result"] ["operator", "x", "y"] (defScope sDue) := ⟨rfl, rfl, rfl, by decide +kernel, rfl, by decide +kernel, by decide +kernel⟩
def spDue : Sp := fun vs H Q _ => ∃ (o : Op) (x y : Int), vs = [.str o.nm, .int x, .int y] ∧ o.isA = true ∧ x.natAbs < big ∧ y.natAbs < big ∧ ∀ H' p, Same H H' → H' p = some (.tup (outV o x y)) → Q (.ref p) H'
theorem zd_in (o : Op) : inV (.str o.nm) [.str "/", .str "mod"] = (o == .div || o == .mod) := by
  cases o <;> decide +kernel
theorem reck_add {x y : Int} : reck .add x y = x + y := rfl
theorem outV_z {o : Op} {x y : Int} (h : zdiv o y = true) : outV o x y = [.str "raised", .str "ZeroDivisionError", .str "division by zero"] := if_pos h
theorem outV_o {o : Op} {x y : Int} (h : zdiv o y = false) (b : ¬ (reck o x y).natAbs < big) : outV o x y = [.str "raised", .str "OverflowError", .str "the integer is too large"] := by
  unfold outV
  rw [h, if_neg Bool.false_ne_true, if_neg b]
theorem outV_t {o : Op} {x y : Int} (h : zdiv o y = false) (b : (reck o x y).natAbs < big) : outV o x y = [.str "told", .int (reck o x y)] := by
  unfold outV
  rw [h, if_neg Bool.false_ne_true, if_pos b]
theorem ok_due {f : Addr} {fd : FuncData} (F : Fun K "_law_due" "_law_due" sDue f fd) (B : Bl mg) (L : Ld K mg lC lB lD lG hC hB hD hG) : FnOk P w K mg base CX0 2 f fd ["operator", "x", "y"] spDue := by
  have GG := L.great (P := P) (w := w) (base := base) B
  refine F.ok scDue (fun vs H Q E h => ?_) (fun cdv A outer s H vs Q E hr h => ?_)
  · obtain ⟨o, x, y, rfl, _⟩ := h
    rfl
  · obtain ⟨o, x, y, rfl, ho, hx, hy, q⟩ := h
    refine ⟨_, pss_cut (ps_if (PW.pt (pw_and (pt_cmpR op_in_seq (pv 0) (pe_tup (pa_cons pe_str (pa_cons pe_str pa_nil))) (by rfl)) (pw_and1 (pt_cmpR op_eq (pv 2) pe_int (nomark _))))) (pss_one (ps_ret (pe_tup (pa_cons pe_str (pa_cons pe_str (pa_cons pe_str pa_nil)))))) pss_nil)
      (pss_cons (ps_set (i := 3) scDue.nd rfl (.inl rfl) (pe_op op_add (pv 1) (pv 2)))
      (pss_cut (ps_if (pt_cmpR op_eq (pv 0) pe_str (nomark _)) (pss_one (ps_set (i := 3) scDue.nd rfl (.inl rfl) (pe_op op_sub (pv 1) (pv 2))))
        (pss_one (ps_if (pt_cmpR op_eq (pv 0) pe_str (nomark _)) (pss_one (ps_set (i := 3) scDue.nd rfl (.inl rfl) (pe_op op_mulW (pv 1) (pv 2))))
          (pss_one (ps_if (pt_cmpR op_eq (pv 0) pe_str (nomark _)) (pss_one (ps_set (i := 3) scDue.nd rfl (.inl rfl) (pe_op op_fdivX (pv 1) (pv 2))))
            (pss_one (ps_if (pt_cmpR op_eq (pv 0) pe_str (nomark _)) (pss_one (ps_set (i := 3) scDue.nd rfl (.inl rfl) (pe_op op_sub (pv 1) (pe_op op_mulW (pv 2) (pe_op op_fdivX (pv 1) (pv 2)))))) pss_nil)))))))
      (pss_cons (ps_if (pt_not (pt_chain op_lt op_lt (pe_un un_neg (pe_call0 GG hr (by rfl) L.gG L.fG.kp L.bG .nil pass0)) (pv 3) (pe_call0 GG hr (by rfl) L.gG L.fG.kp L.bG .nil pass0))) (pss_one (ps_ret (pe_tup (pa_cons pe_str (pa_cons pe_str (pa_cons pe_str pa_nil)))))) pss_nil)
      (pss_one (ps_ret (pe_tup (pa_cons pe_str (pa_cons (pv 3) pa_nil)))))))), ?_⟩
    let M0 : List (Option V) → Hp → Prop := fun σ' H' => σ' = [some (.str o.nm), some (.int x), some (.int y), none] ∧ Same H H' ∧ zdiv o y = false
    refine ⟨M0, ⟨_, rfl, (by show 2 ≤ sizeLine; decide), fun t nt => ⟨t, _, rfl, .inr (.inl (.inl upd_same)), rfl, rfl, _, rfl, ?_⟩⟩, ?_⟩
    · have s1 := same_upd (o := .tup [.str "/", .str "mod"]) nt
      cases hin : (o == .div || o == .mod) with
      | false => exact ifF ((zd_in o).trans hin) ⟨rfl, s1, by unfold zdiv; rw [hin]; rfl⟩
      | true =>
        refine ifT ((zd_in o).trans hin) ⟨_, rfl, rfl, _, rfl, ?_⟩
        by_cases hz : y = 0
        · have e : zdiv o y = true := by unfold zdiv; rw [hin]; simp [hz]
          refine ifT (by simp [hz]) ⟨(by show 3 ≤ sizeLine; decide), fun p np => q _ p (s1.trans (same_upd np)) ?_⟩
          rw [outV_z e]
          exact upd_same
        · exact ifF (by simp [hz]) ⟨rfl, s1, by unfold zdiv; rw [hin]; simp [hz]⟩
    rintro σ' H1 ⟨rfl, s1, hzd⟩
    have hnz : (o = .div ∨ o = .mod) → y ≠ 0 := fun h z => by
      rcases h with rfl | rfl <;> simp [zdiv, z] at hzd
    refine ⟨_, rfl, _, rfl, _, _, rfl, rfl, ?_⟩
    let M : List (Option V) → Hp → Prop := fun σ' H' => σ' = [some (.str o.nm), some (.int x), some (.int y), some (.int (reck o x y))] ∧ H' = H1
    refine ⟨M, ⟨_, rfl, rfl, _, rfl, ?_⟩, ?_⟩
    · cases o with
      | add => exact ifF (by decide +kernel) ⟨_, rfl, rfl, _, rfl, ifF (by decide +kernel) ⟨_, rfl, rfl, _, rfl, ifF (by decide +kernel) ⟨_, rfl, rfl, _, rfl, ifF (by decide +kernel) ⟨rfl, rfl⟩⟩⟩⟩
      | sub => exact ifT (by decide +kernel) ⟨_, rfl, _, rfl, _, _, rfl, rfl, rfl, rfl⟩
      | mul => exact ifF (by decide +kernel) ⟨_, rfl, rfl, _, rfl, ifT (by decide +kernel) ⟨_, rfl, _, rfl, _, _, rfl, rfl, mul_ok hx hy, rfl, rfl⟩⟩
      | div => exact ifF (by decide +kernel) ⟨_, rfl, rfl, _, rfl, ifF (by decide +kernel) ⟨_, rfl, rfl, _, rfl, ifT (by decide +kernel) ⟨_, rfl, _, rfl, _, _, rfl, rfl, divx_ok (hnz (.inl rfl)) hy, rfl, rfl⟩⟩⟩
      | mod => exact ifF (by decide +kernel) ⟨_, rfl, rfl, _, rfl, ifF (by decide +kernel) ⟨_, rfl, rfl, _, rfl, ifF (by decide +kernel) ⟨_, rfl, rfl, _, rfl, ifT (by decide +kernel) ⟨_, rfl, _, rfl, _, rfl, _, rfl, _, _, rfl, rfl, divx_ok (hnz (.inr rfl)) hy, _, _, rfl, rfl, mul_ok hy (Nat.lt_of_le_of_lt (Int.natAbs_fdiv_le_natAbs x y) hx), _, _, rfl, rfl, rfl, rfl⟩⟩⟩⟩
      | _ => cases ho
    rintro σ' H2 ⟨rfl, rfl⟩
    refine ⟨rfl, _, rfl, _, rfl, _, _, rfl, rfl, _, rfl, ?_⟩
    refine ite2 (fun e1 => ⟨rfl, _, _, rfl, rfl, _, rfl, ?_⟩) (fun e1 => ⟨_, rfl, ifT rfl ⟨(by show 3 ≤ sizeLine; decide), fun p np => ?_⟩⟩)
    · have e1' : -(big : Int) < reck o x y := of_decide_eq_true e1
      by_cases hb : (reck o x y).natAbs < big
      · refine ifF (b := !decide (reck o x y < (big : Int))) (by rw [decide_eq_true (show reck o x y < (big : Int) by omega)]; rfl) ⟨_, rfl, (by show 2 ≤ sizeLine; decide), fun p np => q _ p (s1.trans (same_upd np)) ?_⟩
        rw [outV_t hzd hb]
        exact upd_same
      · refine ifT (b := !decide (reck o x y < (big : Int))) (by rw [decide_eq_false (show ¬ reck o x y < (big : Int) by omega)]; rfl) ⟨(by show 3 ≤ sizeLine; decide), fun p np => q _ p (s1.trans (same_upd np)) ?_⟩
        rw [outV_o hzd hb]
        exact upd_same
    · have e1' : ¬ -(big : Int) < reck o x y := fun z => e1 (decide_eq_true z)
      refine q _ p (s1.trans (same_upd np)) ?_
      rw [outV_o hzd (by omega)]
      exact upd_same
end
end My
namespace My
open PySem L2 SX XS
open C8 (pss_cut tCut cutS_slice pe_gc)
section
variable {P : Program} {w : World} {K : PySem.W.Frag} {mg : Str → Option Value} {base : Heap} {cK cS cE cL cW fI fK fS : Addr} {gE gK gS : FuncData} {kK kS kB kC kE kA kO kL oA kN : Addr} {uK uS uB uC uE uA uO uL uN : FuncData}
/-- how a store is made -/
structure Sd (K : PySem.W.Frag) (mg : Str → Option Value) (cK cS fK fS : Addr) (gK gS : FuncData) : Prop where
  T : Ct K mg cK cS
  MK : Mk K cK fK
  FK : Fun K "__init__" "Kin.__init__" sIK fK gK
  bK : Binds K gK ["self", "name", "parent"] []
  MS : Mk K cS fS
  FS : Fun K "__init__" "Store.__init__" sIS fS gS
  bS : Binds K gS ["self", "lines"] []
theorem st_lk (t o l : Addr) : (stF t o l).lookup ("things" : Str) = some (.ref t) ∧ (stF t o l).lookup ("output" : Str) = some (.ref o) := by
  unfold stF
  exact ⟨lk_hit, by rw [lk_skip (by decide +kernel)]; exact lk_hit⟩
theorem rOp_two (cE : Addr) (o : Op) (x y : Int) : (∃ k m : Str, toldV o x y = [.str "raised", .str k, .str m] ∧ ∀ (H : Hp) (Q : VK) (E : XK), (∀ H', Same H H' → Err E cE H' k m) → rOp cE o x y H Q E) ∨
    (∃ v, toldV o x y = [.str "told", v] ∧ ∀ (H : Hp) (Q : VK) (E : XK), (∀ H', Same H H' → Q v H') → rOp cE o x y H Q E) := by
  unfold toldV rOp
  cases ha : o.isA with
  | false => exact .inr ⟨_, rfl, fun H Q E h => by rw [if_neg Bool.false_ne_true]; exact h⟩
  | true =>
    rw [if_pos rfl]
    cases hz : zdiv o y with
    | true => exact .inl ⟨_, _, outV_z hz, fun H Q E h => by rw [if_pos rfl, if_pos rfl]; exact h⟩
    | false =>
      by_cases hb : (reck o x y).natAbs < big
      · exact .inr ⟨_, outV_t hz hb, fun H Q E h => by rw [if_pos rfl, if_neg Bool.false_ne_true, if_pos hb]; exact h⟩
      · exact .inl ⟨_, _, outV_o hz hb, fun H Q E h => by rw [if_pos rfl, if_neg Bool.false_ne_true, if_neg hb]; exact h⟩
theorem scTold : FnScope ["operator", "x", "y", "store", "told", "e"] ["operator", "x", "y"] (defScope sTold) := ⟨rfl, rfl, rfl, by decide +kernel, rfl, by decide +kernel, by decide +kernel⟩
def spTold : Sp := fun vs H Q _ => ∃ (o : Op) (x y : Int), vs = [.str o.nm, .int x, .int y] ∧ x.natAbs < big ∧ y.natAbs < big ∧ ∀ H' p, Same H H' → H' p = some (.tup (toldV o x y)) → Q (.ref p) H'
theorem ok_told {f : Addr} {fd : FuncData} (F : Fun K "_law_told" "_law_told" sTold f fd) (B : Bl mg) (D : Pd K mg kK kS kB kC uK uS uB uC) (Z : Ex P K mg cE cL cW fI gE) (R : Pe K mg kE kA kO kL oA uE uA uO uL) (S : Sd K mg cK cS fK fS gK gS)
    (FN : Fun K "binary" "binary" sBinary kN uN) (bN : Binds K uN ["store", "operator", "x", "y"] []) (mN : mg "binary" = some (.ref kN)) : FnOk P w K mg base CX0 6 f fd ["operator", "x", "y"] spTold := by
  have GN : FnOk P w K mg base (L2.CX P w) 5 kN uN ["store", "operator", "x", "y"] (spBinary cE) := ok_binary FN B D Z R
  have GS : FnOk P w K mg base CX0 3 fS gS ["self", "lines"] (spIS K cS) := ok_IS S.FS S.T B S.MK S.FK S.bK
  refine F.ok scTold (fun vs H Q E h => ?_) (fun cdv A outer s H vs Q E hr h => ?_)
  · obtain ⟨o, x, y, rfl, _⟩ := h
    rfl
  · obtain ⟨o, x, y, rfl, hx, hy, q⟩ := h
    have h4 : Room 4 _ := hr.mono (by decide)
    refine ⟨_, pss_cons (ps_set (i := 3) scTold.nd rfl (.inl rfl) (pe_make S.MS GS h4 (by rfl) S.T.gS S.bS .nil pass0 (pa_cons (pe_lst pa_nil) pa_nil)))
      (pss_cons (ps_try_as (i := 5) (Wout := fun _ _ _ _ => False) rfl rfl scTold.nd rfl rfl ⟨rfl, by decide, .inl Z.gE⟩ takes0
          (fun W pn xe tk _ => pss_one (ps_set (i := 4) scTold.nd rfl (.inl rfl) (by exact (pe_callS GN hr (by rfl) mN FN.kp bN (fun σ => passAt tk σ) (by exact (pa_cons (pv 3) (pa_cons (pv 0) (pa_cons (pv 1) (pa_cons (pv 2) pa_nil)))))))))
          (fun a oe cls d pn hz hf => pss_cons (ps_if (PW.pt (pw_or (pt_not (pt_val (pe_callB (call_isED Z.ec hz hf) (by rfl) B.isinstance (by decide +kernel) (pa_cons (pv 5) (pa_cons (pe_gc (v := .ref cL) (by rfl) ⟨_, Z.gL, rfl⟩) pa_nil))))) (pw_or1 (pt_val (pe_callB (call_isED Z.ec hz hf) (by rfl) B.isinstance (by decide +kernel) (pa_cons (pv 5) (pa_cons (pe_gc (v := .ref cW) (by rfl) ⟨_, Z.gW, rfl⟩) pa_nil))))))) (pss_one ps_never) pss_nil)
            (pss_one (ps_ret (pe_tup (pa_cons pe_str (pa_cons (pe_xf Z.T.xf Z.T.n1 hz hf (pv 5)) (pa_cons (pe_xf Z.T.xf Z.T.n2 hz hf (pv 5)) pa_nil))))))))
      (pss_cons (ps_if (PW.pt (pw_or (pt_cmpR op_ne (pe_callB call_len_seq (by rfl) B.len PySem.boot_len (pa_cons (pe_fld (pv 3) rfl) pa_nil)) pe_int (nomark _)) (pw_or1 (pt_cmpR op_ne (pe_callB call_len_seq (by rfl) B.len PySem.boot_len (pa_cons (pe_fld (pv 3) rfl) pa_nil)) pe_int (nomark _))))) (pss_one ps_never) pss_nil)
      (pss_one (ps_ret (pe_tup (pa_cons pe_str (pa_cons (pv 4) pa_nil))))))), ?_⟩
    refine ⟨Nat.zero_le _, fun l nl st dst nst ndst nsd => ?_⟩
    have sl := same_upd (o := .lst []) nl
    have sm : Same (upd H l (.lst [])) (upd (upd (upd H l (.lst [])) dst (.own st)) st (.ins cS dst [])) := fun b ob e => by
      rw [upd_ne (ne_of_none e nst), upd_ne (ne_of_none e ndst)]
      exact e
    refine ⟨st, dst, l, [], rfl, upd_same, sm.seq (K := K) (SqL.of upd_same), fun H1 k1 hS => ⟨rfl, ?_⟩⟩
    have s1 : Same (upd H l (.lst [])) H1 := Same.made nst ndst k1
    have s01 := sl.trans s1
    refine ⟨_, rfl, _, rfl, _, rfl, _, rfl, .ref st, o, x, y, rfl, hx, hy, ?_⟩
    rcases rOp_two cE o x y with ⟨k, m, et, hop⟩ | ⟨v, et, hop⟩
    · refine hop _ _ _ fun H2 s2 d hd => ?_
      refine ⟨true, Z.T.te, fun _ a0 _ => ?_, fun q => Bool.noConfusion q⟩
      have xd : upd H2 d (.xd [("message", .str m), ("kind", .str k)]) d = some (.xd [("message", .str m), ("kind", .str k)]) := upd_same
      refine ⟨_, rfl, .ref cL, .ref cL, true, d, _, rfl, rfl, rfl, fun u r => r, xd, Z.kL, _, rfl, iteF ⟨_, rfl, .ref cW, .ref cW, false, d, _, rfl, rfl, rfl, fun u r => r, xd, Z.kW, _, rfl, iteF ?_⟩⟩
      refine ⟨_, rfl, rfl, rfl, d, _, _, rfl, xd, (by rw [lk_skip (by decide +kernel)]; exact lk_hit), _, rfl, rfl, rfl, d, _, _, rfl, xd, lk_hit, (by show 3 ≤ sizeLine; decide), fun p np => ?_⟩
      refine q _ p ((s01.trans (s2.trans (same_upd hd))).trans (same_upd np)) ?_
      rw [et]
      exact upd_same
    · refine hop _ _ _ fun H2 s2 => ?_
      obtain ⟨dx, t, ou, l2, x0, e1, e2, e3⟩ := hS.same s2
      obtain ⟨g1, g2⟩ := st_lk t ou l2
      refine ⟨_, rfl, st, cS, dx, _, _, rfl, e1, S.T.clS, S.T.nS_things, g1, t, _, rfl, .inl (SqL.of e2), rfl, _, rfl, ifF (by simp) ⟨_, rfl, st, cS, dx, _, _, rfl, e1, S.T.clS, S.T.nS_output, g2, ou, _, rfl, .inl (SqL.of e3), rfl, _, rfl, ifF (by decide) ?_⟩⟩
      refine ⟨_, rfl, (by show 2 ≤ sizeLine; decide), fun p np => q _ p ((s01.trans s2).trans (same_upd np)) ?_⟩
      rw [et]
      exact upd_same
end
end My
namespace My
open PySem L2 SX XS
open C8 (pss_cut tCut cutS_slice pe_gc)
section
variable {P : Program} {w : World} {K : PySem.W.Frag} {mg : Str → Option Value} {base : Heap} {cK cS cE cL cW fI fK fS : Addr} {gE gK gS : FuncData} {kK kS kB kC kE kA kO kL oA kN : Addr} {uK uS uB uC uE uA uO uL uN : FuncData}
  {lC lB lD lG : Addr} {hC hB hD hG : FuncData} {lN lT lU lO lI kU kT : Addr} {hN hT hU hO hI uU uT : FuncData}
abbrev sLaw : Stmt := top 49
theorem scLaw : FnScope ["script", "state", "k", "x", "y", "operator", "told"] ["script"] (defScope sLaw) := ⟨rfl, rfl, rfl, by decide +kernel, rfl, by decide +kernel, by decide +kernel⟩
def spLaw (K : PySem.W.Frag) : Sp := fun vs H Q _ => ∃ (a : Addr) (ns : List Int), vs = [.ref a] ∧ SqL K H a (ns.map V.int) ∧ ns.length ≤ 63 ∧ ∀ H', Q (.bl true) H'
/-- where the law's other defs stand -/
structure Le (K : PySem.W.Frag) (mg : Str → Option Value) (lN lT lU lO lI kN kU kT : Addr) (hN hT hU hO hI uN uU uT : FuncData) : Prop where
  fN : Fun K "_law_number" "_law_number" sNumber lN hN
  bN : Binds K hN ["state"] []
  gN : mg "_law_number" = some (.ref lN)
  fT : Fun K "_law_told" "_law_told" sTold lT hT
  bT : Binds K hT ["operator", "x", "y"] []
  gT : mg "_law_told" = some (.ref lT)
  fU : Fun K "_law_due" "_law_due" sDue lU hU
  bU : Binds K hU ["operator", "x", "y"] []
  gU : mg "_law_due" = some (.ref lU)
  fO : Fun K "_law_compared" "_law_compared" sCompared lO hO
  bO : Binds K hO ["operator", "x", "y"] []
  gO : mg "_law_compared" = some (.ref lO)
  fI : Fun K "_law_is_integer" "_law_is_integer" sIsInteger lI hI
  bI : Binds K hI ["told"] []
  gI : mg "_law_is_integer" = some (.ref lI)
  fB : Fun K "binary" "binary" sBinary kN uN
  bB : Binds K uN ["store", "operator", "x", "y"] []
  gB : mg "binary" = some (.ref kN)
  fV : Fun K "unary" "unary" sUnary kU uU
  bV : Binds K uU ["store", "operator", "x"] []
  gV : mg "unary" = some (.ref kU)
  fW : Fun K "is_true" "is_true" sIsTrue kT uT
  bW : Binds K uT ["value"] []
  gW : mg "is_true" = some (.ref kT)
/-- the outcomes, as data -/
theorem outV_two (o : Op) (x y : Int) : (∃ k m : Str, outV o x y = [.str "raised", .str k, .str m] ∧ SeqAt.shaped (.tuple [.str "raised", .str k, .str m]) = true) ∨ ∃ v : Int, outV o x y = [.str "told", .int v] ∧ SeqAt.shaped (.tuple [.str "told", .int v]) = true := by
  cases hz : zdiv o y with
  | true => exact .inl ⟨_, _, outV_z hz, by decide +kernel⟩
  | false =>
    by_cases hb : (reck o x y).natAbs < big
    · refine .inr ⟨_, outV_t hz hb, ?_⟩
      simp only [SeqAt.shaped, PyData.canLay0, PyData.canLayAll0, PyData.depth, PyData.depthAll, Bool.and_true, Bool.true_and]
      have h1 : PyData.strOk ("told" : Str) = true := by decide +kernel
      rw [h1]
      rfl
    · exact .inl ⟨_, _, outV_o hz hb, by decide +kernel⟩
theorem outV_data (o : Op) (x y : Int) : ∃ ds, SeqAt.shaped (.tuple ds) = true ∧ PyData.eqv (.tuple ds) (.tuple ds) = true ∧ ∀ (H : Hp) (p : Addr), H p = some (.tup (outV o x y)) → Dp K H (.ref p) (.tuple ds) := by
  rcases outV_two o x y with ⟨k, m, e, sh⟩ | ⟨v, e, sh⟩
  · refine ⟨_, sh, SeqAt.eqv_refl _ (SeqAt.canLay_of_shaped sh), fun H p h => .tup (.inl (.inl h)) ?_⟩
    rw [e]
    exact .cons (.str _) (.cons (.str _) (.cons (.str _) .nil))
  · refine ⟨_, sh, SeqAt.eqv_refl _ (SeqAt.canLay_of_shaped sh), fun H p h => .tup (.inl (.inl h)) ?_⟩
    rw [e]
    exact .cons (.str _) (.cons (.int _) .nil)
theorem same_sqt {H H' : Hp} {r : Addr} {xs : List V} (s : Same H H') (h : SqT K H r xs) : SqT K H' r xs := by
  rcases h with (h | ⟨ob, h⟩) | h
  · exact .inl (.inl (s _ _ h))
  · exact .inl (.inr ⟨ob, s _ _ h⟩)
  · exact .inr h
theorem made_same {H H1 : Hp} {l st dst : Addr} (nl : H l = none) (nst : upd H l (.lst []) st = none) (ndst : upd H l (.lst []) dst = none) (k1 : Keep st (upd (upd (upd H l (.lst [])) dst (.own st)) st (.ins cS dst [])) H1) : Same H H1 :=
  (same_upd nl).trans (Same.made nst ndst k1)
theorem made_sql {H : Hp} {l st dst : Addr} (nst : upd H l (.lst []) st = none) (ndst : upd H l (.lst []) dst = none) : SqL K (upd (upd (upd H l (.lst [])) dst (.own st)) st (.ins cS dst [])) l [] := by
  have sm : Same (upd H l (.lst [])) (upd (upd (upd H l (.lst [])) dst (.own st)) st (.ins cS dst [])) := fun b ob e => by
    rw [upd_ne (ne_of_none e nst), upd_ne (ne_of_none e ndst)]
    exact e
  exact sm.seq (SqL.of upd_same)
def opsA : List Op := [.add, .sub, .mul, .div, .mod]
def opsC : List Op := [.lt, .le, .gt, .ge, .eq, .ne]
theorem ok_law {f : Addr} {fd : FuncData} (F : Fun K "law" "law" sLaw f fd) (B : Bl mg) (D : Pd K mg kK kS kB kC uK uS uB uC) (Z : Ex P K mg cE cL cW fI gE) (R : Pe K mg kE kA kO kL oA uE uA uO uL) (S : Sd K mg cK cS fK fS gK gS)
    (L : Ld K mg lC lB lD lG hC hB hD hG) (M : Le K mg lN lT lU lO lI kN kU kT hN hT hU hO hI uN uU uT) : FnOk P w K mg base CX0 7 f fd ["script"] (spLaw K) := by
  have GD := L.draw (P := P) (w := w) (base := base) B
  have GG := L.great (P := P) (w := w) (base := base) B
  have GB : FnOk P w K mg base CX0 1 lB hB ["script", "k"] (spBegin K) := ok_begin L.fB
  have GN : FnOk P w K mg base CX0 3 lN hN ["state"] (spNumber K) := ok_number M.fN B L
  have GT : FnOk P w K mg base CX0 6 lT hT ["operator", "x", "y"] spTold := ok_told M.fT B D Z R S M.fB M.bB M.gB
  have GU : FnOk P w K mg base CX0 2 lU hU ["operator", "x", "y"] spDue := ok_due M.fU B L
  have GO : FnOk P w K mg base CX0 1 lO hO ["operator", "x", "y"] spCompared := ok_compared M.fO
  have GI : FnOk P w K mg base CX0 1 lI hI ["told"] spIsInteger := ok_is_integer M.fI B
  have GV : FnOk P w K mg base CX0 2 kU uU ["store", "operator", "x"] spUnary := ok_unary M.fV B D M.fW M.bW M.gW
  have GS : FnOk P w K mg base CX0 3 fS gS ["self", "lines"] (spIS K cS) := ok_IS S.FS S.T B S.MK S.FK S.bK
  refine F.ok scLaw (fun vs H Q E h => ?_) (fun cdv A outer s H vs Q E hr h => ?_)
  · obtain ⟨a, ns, rfl, _⟩ := h
    rfl
  · obtain ⟨a, ns, rfl, hS, hlen, q⟩ := h
    have h1 : Room 1 _ := hr.mono (by decide)
    have h2 : Room 2 _ := hr.mono (by decide)
    have h3 : Room 3 _ := hr.mono (by decide)
    have h4 : Room 4 _ := hr.mono (by decide)
    refine ⟨_, pss_cons (ps_set (i := 1) scLaw.nd rfl (.inl rfl) (pe_call GB h1 (by rfl) L.gB L.fB.kp L.bB .nil pass0 (pa_cons (pv 0) (pa_cons pe_int pa_nil))))
      (pss_cons (ps_for PassesOwn.never rfl (pi_range1 (by rfl) B.range (pa_cons (pe_callB (call_min2 rfl) (by rfl) B.min (by decide +kernel) (pa_cons pe_int (pa_cons (pe_callB (call_max2 rfl) (by rfl) B.max (by decide +kernel) (pa_cons pe_int (pa_cons (pe_callB call_len_seq (by rfl) B.len PySem.boot_len (pa_cons (pv 0) pa_nil)) pa_nil))) pa_nil))) pa_nil)) (pg_name (i := 2) scLaw.nd rfl (.inl rfl))
        (pss_cons (ps_set (i := 3) scLaw.nd rfl (.inl rfl) (pe_call GN h3 (by rfl) M.gN M.fN.kp M.bN .nil pass0 (pa_cons (pv 1) pa_nil)))
        (pss_cons (ps_set (i := 4) scLaw.nd rfl (.inl rfl) (pe_call GN h3 (by rfl) M.gN M.fN.kp M.bN .nil pass0 (pa_cons (pv 1) pa_nil)))
        (pss_cut (ps_if (pt_cmpR op_eq (pe_call GD h2 (by rfl) L.gD L.fD.kp L.bD .nil pass0 (pa_cons (pv 1) (pa_cons pe_int pa_nil))) pe_int (nomark _))
          (pss_cons (ps_set (i := 4) scLaw.nd rfl (.inl rfl) (pe_op op_sub (pe_op op_add (pv 3) (pe_call GD h2 (by rfl) L.gD L.fD.kp L.bD .nil pass0 (pa_cons (pv 1) (pa_cons pe_int pa_nil)))) pe_int))
          (pss_one (ps_if (pt_not (pt_chain op_lt op_lt (pe_un un_neg (pe_call0 GG h1 (by rfl) L.gG L.fG.kp L.bG .nil pass0)) (pv 4) (pe_call0 GG h1 (by rfl) L.gG L.fG.kp L.bG .nil pass0))) (pss_one (ps_set (i := 4) scLaw.nd rfl (.inl rfl) (pv 3))) pss_nil))) pss_nil)
        (pss_cons (ps_for PassesOwn.never rfl (pi_tup (pe_tup (pa_cons pe_str (pa_cons pe_str (pa_cons pe_str (pa_cons pe_str (pa_cons pe_str pa_nil))))))) (pg_name (i := 5) scLaw.nd rfl (.inl rfl))
          (pss_cons (ps_set (i := 6) scLaw.nd rfl (.inl rfl) (pe_call GT hr (by rfl) M.gT M.fT.kp M.bT .nil pass0 (pa_cons (pv 5) (pa_cons (pv 3) (pa_cons (pv 4) pa_nil)))))
          (pss_one (ps_if (PW.pt (pw_or (pt_cmpR (op_neD hr.units) (pv 6) (pe_call GU h2 (by rfl) M.gU M.fU.kp M.bU .nil pass0 (pa_cons (pv 5) (pa_cons (pv 3) (pa_cons (pv 4) pa_nil)))) (nomark _))
            (pw_or1 (PW.pt (pw_and (pt_cmpR op_eq (pe_ix ix_tup (pv 6) pe_int (fun _ _ => rfl)) pe_str (nomark _)) (pw_and1 (pt_not (pt_val (pe_call GI h1 (by rfl) M.gI M.fI.kp M.bI .nil pass0 (pa_cons (pe_ix ix_tup (pv 6) pe_int (fun _ _ => rfl)) pa_nil))))))))))
            (pss_one (ps_ret pe_bl)) pss_nil))))
        (pss_cons (ps_for PassesOwn.never rfl (pi_tup (pe_tup (pa_cons pe_str (pa_cons pe_str (pa_cons pe_str (pa_cons pe_str (pa_cons pe_str (pa_cons pe_str pa_nil)))))))) (pg_name (i := 5) scLaw.nd rfl (.inl rfl))
          (pss_cons (ps_set (i := 6) scLaw.nd rfl (.inl rfl) (pe_call GT hr (by rfl) M.gT M.fT.kp M.bT .nil pass0 (pa_cons (pv 5) (pa_cons (pv 3) (pa_cons (pv 4) pa_nil)))))
          (pss_one (ps_if (PW.pt (pw_or (pt_cmpR op_ne (pe_ix ix_tup (pv 6) pe_int (fun _ _ => rfl)) pe_str (nomark _)) (pw_or (pt_not (pt_val (pe_callB call_isi (by rfl) B.isinstance (by decide +kernel) (pa_cons (pe_ix ix_tup (pv 6) pe_int (fun _ _ => rfl)) (pa_cons (pe_bltn (v := .ty "bool") (by rfl) B.bool (by decide +kernel) rfl) pa_nil)))))
            (pw_or1 (pt_cmpR op_ne (pe_ix ix_tup (pv 6) pe_int (fun _ _ => rfl)) (pe_call GO h1 (by rfl) M.gO M.fO.kp M.bO .nil pass0 (pa_cons (pv 5) (pa_cons (pv 3) (pa_cons (pv 4) pa_nil)))) (nomark _))))))
            (pss_one (ps_ret pe_bl)) pss_nil))))
        (pss_cons (ps_set (i := 6) scLaw.nd rfl (.inl rfl) (pe_call GV h2 (by rfl) M.gV M.fV.kp M.bV .nil pass0 (pa_cons (pe_make S.MS GS h4 (by rfl) S.T.gS S.bS .nil pass0 (pa_cons (pe_lst pa_nil) pa_nil)) (pa_cons pe_str (pa_cons (pv 3) pa_nil)))))
        (pss_one (ps_if (PW.pt (pw_or (pt_not (pt_val (pe_call GI h1 (by rfl) M.gI M.fI.kp M.bI .nil pass0 (pa_cons (pv 6) pa_nil)))) (pw_or (pt_cmpR op_ne (pv 6) (pe_un un_neg (pv 3)) (nomark _))
          (pw_or1 (pt_cmpR op_notBlM (pe_call GV h2 (by rfl) M.gV M.fV.kp M.bV .nil pass0 (pa_cons (pe_make S.MS GS h4 (by rfl) S.T.gS S.bS .nil pass0 (pa_cons (pe_lst pa_nil) pa_nil)) (pa_cons pe_str (pa_cons (pv 3) pa_nil)))) pe_bl (nomark _))))))
          (pss_one (ps_ret pe_bl)) pss_nil)))))))))
      (pss_one (ps_ret pe_bl))), ?_⟩
    refine ⟨_, rfl, a, ns, rfl, hS, fun H1 p np s1 st1 => ?_⟩
    have ca : ∀ o ∈ opsA, o.isA = true := by decide
    have cc : ∀ o ∈ opsC, o.isA = false := by decide
    have getO : ∀ {os : List Op} {i : Nat} {v : V}, (os.map fun o => V.str o.nm)[i]? = some v → ∃ o, o ∈ os ∧ v = .str o.nm := fun {os i v} e => by
      rw [List.getElem?_map] at e
      cases g : os[i]? with
      | none => rw [g] at e; cases e
      | some o => rw [g] at e; exact ⟨o, List.mem_of_getElem? g, (Option.some.inj e).symm⟩
    let In : Nat → List (Option V) → Hp → Prop := fun _ σ H' => ∃ y2 y3 y4 y5 y6 : Option V, σ = [some (.ref a), some (.ref p), y2, y3, y4, y5, y6] ∧ StL K H' a p ns
    refine ⟨_, rfl, a, _, rfl, .inl (s1.seq hS), _, _, rfl, _, _, rfl, _, rfl, ?_, ?_, for_range In ⟨none, none, none, none, none, rfl, st1⟩ ?_ ?_⟩
    · split <;> (try split) <;> (try split) <;> omega
    · have hl : (List.map V.int ns).length = ns.length := List.length_map _
      split <;> (try split) <;> (try split) <;> omega
    · rintro i σ H2 hi ⟨y2, y3, y4, y5, y6, rfl, st2⟩
      refine ⟨_, rfl, a, p, ns, rfl, st2, fun H3 x k3 st3 hx => ⟨_, rfl, a, p, ns, rfl, st3, fun H4 y0 k4 st4 hy0 => ?_⟩⟩
      let M1 : List (Option V) → Hp → Prop := fun σ' H' => ∃ y : Int, σ' = [some (.ref a), some (.ref p), some (.int (0 + i)), some (.int x), some (.int y), y5, y6] ∧ StL K H' a p ns ∧ y.natAbs < big
      refine ⟨M1, ⟨_, rfl, a, p, ns, 4, rfl, st4, by decide, by decide, fun H5 d k5 st5 _ _ => ⟨rfl, _, rfl, ite2 (fun _ => ?_) (fun _ => ⟨y0, rfl, st5, hy0⟩)⟩⟩, ?_⟩
      · refine ⟨_, rfl, _, rfl, a, p, ns, 3, rfl, st5, by decide, by decide, fun H6 e k6 st6 el eh => ⟨_, _, rfl, rfl, _, _, rfl, rfl, ?_⟩⟩
        refine ⟨rfl, _, rfl, _, rfl, _, _, rfl, rfl, _, rfl, ite2 (fun e1 => ⟨rfl, _, _, rfl, rfl, _, rfl, ?_⟩) (fun e1 => ⟨_, rfl, ifT rfl ⟨_, rfl, x, rfl, st6, hx⟩⟩)⟩
        have e1' : -(big : Int) < x + e - 1 := of_decide_eq_true e1
        by_cases hb : x + e - 1 < (big : Int)
        · exact ifF (b := !decide (x + e - 1 < (big : Int))) (by rw [decide_eq_true hb]; rfl) ⟨_, rfl, st6, by omega⟩
        · exact ifT (b := !decide (x + e - 1 < (big : Int))) (by rw [decide_eq_false hb]; rfl) ⟨_, rfl, x, rfl, st6, hx⟩
      rintro σ' H5 ⟨y, rfl, st5, hy⟩
      -- the operators that reckon
      refine ⟨(by show 5 ≤ sizeLine; decide), fun t nt => ⟨t, rfl, ⟨_, .inl (.inl upd_same)⟩, ?_⟩⟩
      have s5 := same_upd (o := .tup (opsA.map fun o => V.str o.nm)) nt
      refine for_tup (K := K) (a := t) (xs := opsA.map fun o => V.str o.nm) (fun _ σ H' => ∃ y5 y6 : Option V, σ = [some (.ref a), some (.ref p), some (.int (0 + i)), some (.int x), some (.int y), y5, y6] ∧ StL K H' a p ns ∧ SqT K H' t (opsA.map fun o => V.str o.nm)) ⟨y5, y6, rfl, st5.same s5, .inl (.inl upd_same)⟩ (fun _ _ _ _ ⟨_, _, _, _, g⟩ => g) ?_ ?_
      · rintro j v σ H6 hj ⟨z5, z6, rfl, st6, sq6⟩
        obtain ⟨o, ho, rfl⟩ := getO hj
        have hoA := ca o ho
        refine ⟨_, rfl, _, rfl, _, rfl, o, x, y, rfl, hx, hy, fun H7 r s7 hr7 => ?_⟩
        have er : toldV o x y = outV o x y := by unfold toldV; rw [if_pos hoA]
        rw [er] at hr7
        refine ⟨_, rfl, _, rfl, _, rfl, _, rfl, o, x, y, rfl, hoA, hx, hy, fun H8 u s8 hu8 => ?_⟩
        obtain ⟨ds, sh, ev, dp⟩ := outV_data (K := K) o x y
        have hr8 := s8 _ _ hr7
        have sq8 : SqT K H8 r (outV o x y) := .inl (.inl hr8)
        have fin : StL K H8 a p ns ∧ SqT K H8 t (opsA.map fun o => V.str o.nm) := ⟨st6.same (s7.trans s8), same_sqt (s7.trans s8) sq6⟩
        refine ⟨_, _, dp _ _ hr8, dp _ _ hu8, sh, sh, _, rfl, ifF (by rw [ev]; rfl) ?_⟩
        rcases outV_two o x y with ⟨k, m, e, _⟩ | ⟨v, e, _⟩
        · rw [e] at sq8
          exact ⟨_, rfl, r, _, _, _, rfl, rfl, sq8, rfl, rfl, _, rfl, ifF (by decide +kernel) ⟨_, _, rfl, fin.1, fin.2⟩⟩
        · rw [e] at sq8
          exact ⟨_, rfl, r, _, _, _, rfl, rfl, sq8, rfl, rfl, _, rfl, ifT (by decide +kernel) ⟨_, rfl, r, _, _, _, rfl, rfl, sq8, rfl, v, rfl, _, rfl, ⟨_, _, rfl, fin.1, fin.2⟩⟩⟩
      rintro σ H6 ⟨z5, z6, rfl, st6, _⟩
      -- the operators that compare
      refine ⟨(by show 6 ≤ sizeLine; decide), fun t2 nt2 => ⟨t2, rfl, ⟨_, .inl (.inl upd_same)⟩, ?_⟩⟩
      have s6 := same_upd (o := .tup (opsC.map fun o => V.str o.nm)) nt2
      refine for_tup (K := K) (a := t2) (xs := opsC.map fun o => V.str o.nm) (fun _ σ H' => ∃ y5 y6 : Option V, σ = [some (.ref a), some (.ref p), some (.int (0 + i)), some (.int x), some (.int y), y5, y6] ∧ StL K H' a p ns ∧ SqT K H' t2 (opsC.map fun o => V.str o.nm)) ⟨z5, z6, rfl, st6.same s6, .inl (.inl upd_same)⟩ (fun _ _ _ _ ⟨_, _, _, _, g⟩ => g) ?_ ?_
      · rintro j v σ H7 hj ⟨w5, w6, rfl, st7, sq7⟩
        obtain ⟨o, ho, rfl⟩ := getO hj
        have hoC := cc o ho
        refine ⟨_, rfl, _, rfl, _, rfl, o, x, y, rfl, hx, hy, fun H8 r s8 hr8 => ?_⟩
        have er : toldV o x y = [.str "told", .bl (comp o x y)] := by unfold toldV; rw [hoC]; rfl
        rw [er] at hr8
        have sq8 : SqT K H8 r [.str "told", .bl (comp o x y)] := .inl (.inl hr8)
        refine ⟨_, rfl, r, _, _, _, rfl, rfl, sq8, rfl, rfl, _, rfl, ifF (by decide +kernel) ⟨_, rfl, r, _, _, _, rfl, rfl, sq8, rfl, _, .ty "bool", _, _, true, rfl, .ty _, .base (.bl _), kit_bool_bool, _, rfl, iteF ?_⟩⟩
        refine ⟨_, rfl, r, _, _, _, rfl, rfl, sq8, rfl, _, rfl, _, rfl, _, rfl, o, x, y, rfl, hoC, rfl, _, rfl, ifF (by simp) ⟨_, _, rfl, st7.same s8, same_sqt s8 sq7⟩⟩
      rintro σ H7 ⟨w5, w6, rfl, st7, _⟩
      -- unary
      refine ⟨Nat.zero_le _, fun l nl sa dsa nsa ndsa nsd => ⟨sa, dsa, l, [], rfl, upd_same, made_sql nsa ndsa, fun H8 k8 _ => ⟨rfl, _, rfl, .ref sa, false, x, rfl, ?_⟩⟩⟩
      have s8 := made_same nl nsa ndsa k8
      refine ⟨_, rfl, -x, rfl, _, rfl, iteF ⟨_, rfl, _, rfl, _, rfl, rfl, _, rfl, ifF (by simp) ?_⟩⟩
      refine ⟨Nat.zero_le _, fun l2 nl2 sb dsb nsb ndsb nsd2 => ⟨sb, dsb, l2, [], rfl, upd_same, made_sql nsb ndsb, fun H9 k9 _ => ⟨rfl, _, rfl, .ref sb, true, x, rfl, rfl, _, rfl, ifF (by simp) ?_⟩⟩⟩
      have s9 := made_same nl2 nsb ndsb k9
      exact ⟨_, _, _, _, _, rfl, (st7.same s8).same s9⟩
    · rintro σ H2 ⟨y2, y3, y4, y5, y6, rfl, st2⟩
      exact q _
end
end My
namespace My
open PySem L2 SX XS
theorem all_mk {l : PySem.W.OpenLaw} {w : World} {K : PySem.W.Frag} {h : Heap} {mg : Str → Option Value} {fa cK cS cE cL cW fI cda cc oA fK fS kK kS kB kC kE kA kO kL kN kU kT lC lB lD lG lN lT lU lO lI fL : Addr} (X : K.In h) (G : h.Ns mainGlobals mg) (hfa : mg "law" = some (.ref fa))
    {odIK anIK odIS anIS odkK ankK odkS ankS odkB ankB odkC ankC odkE ankE odkA ankA odkO ankO odkL ankL odkN ankN odkU ankU odkT ankT odlC anlC odlB anlB odlD anlD odlG anlG odlN anlN odlT anlT odlU anlU odlO anlO odlI anlI odlaw anlaw : Option Addr} {slIK slIS slkK slkS slkB slkC slkE slkA slkO slkL slkN slkU slkT sllC sllB sllD sllG sllN sllT sllU sllO sllI sllaw : Array (Option Value)} {ocIK kVIK dcIK pmIK cdIK ctIK ocIS kVIS dcIS pmIS cdIS ctIS ockK kVkK dckK pmkK cdkK ctkK ockS kVkS dckS pmkS cdkS ctkS ockB kVkB dckB pmkB cdkB ctkB ockC kVkC dckC pmkC cdkC ctkC ockE kVkE dckE pmkE cdkE ctkE ockA kVkA dckA pmkA cdkA ctkA ockO kVkO dckO pmkO cdkO ctkO ockL kVkL dckL pmkL cdkL ctkL ockN kVkN dckN pmkN cdkN ctkN ockU kVkU dckU pmkU cdkU ctkU ockT kVkT dckT pmkT cdkT ctkT oclC kVlC dclC pmlC cdlC ctlC oclB kVlB dclB pmlB cdlB ctlB oclD kVlD dclD pmlD cdlD ctlD oclG kVlG dclG pmlG cdlG ctlG oclN kVlN dclN pmlN cdlN ctlN oclT kVlT dclT pmlT cdlT ctlT oclU kVlU dclU pmlU cdlU ctlU oclO kVlO dclO pmlO cdlO ctlO oclI kVlI dclI pmlI cdlI ctlI oclaw kVlaw dclaw pmlaw cdlaw ctlaw : Value}
    {nm q : Str} {N : Addr} {bs : List Value} {sn : List Str} {sub : List Value} {ab : Bool} {col : Option Bool} {dd : Option Addr} {m0 m1 m2 m3 m5 : Option Value}
    {odE anE cdd cld ddO : Option Addr} {slE ccs csl osO : Array (Option Value)} {ocE kVE dcE pmE ctE ccl cl : Value} {cvs itsO : Array Value} {file : Str} {tf tD : Tok} {nnO : Nat}
    (uK : PySem.W.nsIn K mainGlobals "Kin" = some (some (.ref cK)))
    (mkK : PySem.W.makesIn K cK = true)
    (kcK : PySem.W.keepIn K (.ref cK) = true)
    (pgK : PySem.W.plainGet K cK Str.empty = true)
    (hdK : PySem.W.hasDictIn K cK = true)
    (poK : PySem.W.plainOver K cK = true)
    (saK : PySem.W.findIn K (.ref cK) "__setattr__" = some (some (.builtin "object.__setattr__")))
    (nK_name : PySem.W.findIn K (.ref cK) "name" = some none)
    (nK_parent : PySem.W.findIn K (.ref cK) "parent" = some none)
    (nK_methods : PySem.W.findIn K (.ref cK) "methods" = some none)
    (uS : PySem.W.nsIn K mainGlobals "Store" = some (some (.ref cS)))
    (mkS : PySem.W.makesIn K cS = true)
    (kcS : PySem.W.keepIn K (.ref cS) = true)
    (pgS : PySem.W.plainGet K cS Str.empty = true)
    (hdS : PySem.W.hasDictIn K cS = true)
    (poS : PySem.W.plainOver K cS = true)
    (saS : PySem.W.findIn K (.ref cS) "__setattr__" = some (some (.builtin "object.__setattr__")))
    (nS_things : PySem.W.findIn K (.ref cS) "things" = some none)
    (nS_output : PySem.W.findIn K (.ref cS) "output" = some none)
    (nS_lines : PySem.W.findIn K (.ref cS) "lines" = some none)
    (nS_taken : PySem.W.findIn K (.ref cS) "taken" = some none)
    (uE : PySem.W.nsIn K mainGlobals "ScriptError" = some (some (.ref cE)))
    (uL : PySem.W.nsIn K mainGlobals "LivequillError" = some (some (.ref cL)))
    (uW : PySem.W.nsIn K mainGlobals "Waiting" = some (some (.ref cW)))
    (xE : K.lookup cE = some (excClassObj nm q cE N bs [.ref cL, .type "ValueError", .type "Exception", .type "BaseException", .type "object"] true sn sub ab col dd m0 m1 m2 m3 m5 "ValueError.__new__"))
    (saE : PySem.W.findIn K (.ref cE) "__setattr__" = some (some (.builtin "object.__setattr__")))
    (exE : PySem.W.subIn K (.ref cE) (.type "BaseException") = some true)
    (tyE : PySem.W.typeIn K (.ref cE) = some (.type "type"))
    (kpE : PySem.W.keepIn K (.ref cE) = true)
    (n1E : PySem.W.findIn K (.ref cE) "kind" = some none)
    (n2E : PySem.W.findIn K (.ref cE) "message" = some none)
    (iE : PySem.W.findIn K (.ref cE) "__init__" = some (some (.ref fI)))
    (tiE : PySem.W.typeIn K (.ref fI) = some (.type "function"))
    (gaE : PySem.W.findIn K (.ref cE) "__getattribute__" = some (some (.builtin "BaseException.__getattribute__")))
    (ggE : PySem.W.findIn K (.ref cE) "__getattr__" = some none)
    (hdE : PySem.W.hasDictIn K cE = true)
    (ssE : PySem.W.subIn K (.ref cE) (.ref cE) = some true)
    (liE : K.lookup fI = some ⟨ocE, odE, .func (PySem.W.ksFn "__init__" "ScriptError.__init__" (defArgs sSE) (defBody sSE) (defScope sSE) .none kVE dcE pmE anE (.ref cda) ctE cc), slE⟩)
    (ciE : PySem.W.codeIn K (.ref cda) "ScriptError.__init__" = true)
    (coE : K.lookup cda = some ⟨ccl, cdd, .fields cvs, ccs⟩)
    (cvE : cvs[2]? = some (.str file tf))
    (fiE : ((l.prog.main.file : Str) == file) = true)
    (ceE : K.lookup cc = some ⟨cl, cld, .cell (some (.ref cE)), csl⟩)
    (toE : (l.prog.main.scope.names.lookup ("super" : Str)).isSome = false)
    (suE : PySem.W.nsIn K mainGlobals "super" = some none)
    (mrE : PySem.W.mroIn K cE (.ref cE) = some true)
    (opE : PySem.W.nsIn K PySem.cStatics "thirdparty.any" = some none)
    (ksE : PySem.W.ks_superIn K cE cE "__init__" = some (some (.builtin "ValueError.__init__")))
    (vaE : PySem.W.subIn K (.ref cE) (.type "ValueError") = some true)
    (haE : PySem.W.findIn K (.ref cE) "__class__" = some (some (.builtin "object.__class__")))
    (hnE : PySem.W.specialIn K (.builtin "object.__class__") "__get__" = some (some (.builtin "getset_descriptor.__get__")))
    (htE : PySem.W.takesIn K (.builtin "object.__class__") = some true)
    (hmE : PySem.W.mroIn K cE (.type "object") = some true)
    (klE : PySem.W.kitOne K (.ref cE) (.ref cL) = some true)
    (kwE : PySem.W.kitOne K (.ref cE) (.ref cW) = some false)
    (dB : PySem.W.nsIn K mainGlobals "DOUBTFUL_BITS" = some (some (.int 997 tD)))
    (utO : PySem.W.nsIn K mainGlobals "ORDERS" = some (some (.ref oA)))
    (ltO : K.lookup oA = some ⟨.type "tuple", ddO, .seq itsO nnO, osO⟩)
    (vO : Vals ords itsO.toList)
    (nO : itsO.size ≤ sizeLine)
    (aIK : PySem.W.findIn K (.ref cK) "__init__" = some (some (.ref fK)))
    (iIK : PySem.W.isFn K (.ref fK) = true)
    (lIK : K.lookup fK = some ⟨ocIK, odIK, .func (PySem.W.fnOf "__init__" "Kin.__init__" (defArgs sIK) (defBody sIK) (defScope sIK) .none kVIK dcIK pmIK anIK cdIK ctIK), slIK⟩)
    (cIK : PySem.W.codeIn K cdIK "Kin.__init__" = true)
    (kIK : PySem.W.keepIn K (.ref fK) = true)
    (aIS : PySem.W.findIn K (.ref cS) "__init__" = some (some (.ref fS)))
    (iIS : PySem.W.isFn K (.ref fS) = true)
    (lIS : K.lookup fS = some ⟨ocIS, odIS, .func (PySem.W.fnOf "__init__" "Store.__init__" (defArgs sIS) (defBody sIS) (defScope sIS) .none kVIS dcIS pmIS anIS cdIS ctIS), slIS⟩)
    (cIS : PySem.W.codeIn K cdIS "Store.__init__" = true)
    (kIS : PySem.W.keepIn K (.ref fS) = true)
    (akK : PySem.W.nsIn K mainGlobals "kind_of" = some (some (.ref kK)))
    (lkK : K.lookup kK = some ⟨ockK, odkK, .func (PySem.W.fnOf "kind_of" "kind_of" (defArgs sKindOf) (defBody sKindOf) (defScope sKindOf) .none kVkK dckK pmkK ankK cdkK ctkK), slkK⟩)
    (ckK : PySem.W.codeIn K cdkK "kind_of" = true)
    (kkK : PySem.W.keepIn K (.ref kK) = true)
    (akS : PySem.W.nsIn K mainGlobals "kinds_of" = some (some (.ref kS)))
    (lkS : K.lookup kS = some ⟨ockS, odkS, .func (PySem.W.fnOf "kinds_of" "kinds_of" (defArgs sKindsOf) (defBody sKindsOf) (defScope sKindsOf) .none kVkS dckS pmkS ankS cdkS ctkS), slkS⟩)
    (ckS : PySem.W.codeIn K cdkS "kinds_of" = true)
    (kkS : PySem.W.keepIn K (.ref kS) = true)
    (akB : PySem.W.nsIn K mainGlobals "is_bounded" = some (some (.ref kB)))
    (lkB : K.lookup kB = some ⟨ockB, odkB, .func (PySem.W.fnOf "is_bounded" "is_bounded" (defArgs sIsBounded) (defBody sIsBounded) (defScope sIsBounded) .none kVkB dckB pmkB ankB cdkB ctkB), slkB⟩)
    (ckB : PySem.W.codeIn K cdkB "is_bounded" = true)
    (kkB : PySem.W.keepIn K (.ref kB) = true)
    (akC : PySem.W.nsIn K mainGlobals "checked_integer" = some (some (.ref kC)))
    (lkC : K.lookup kC = some ⟨ockC, odkC, .func (PySem.W.fnOf "checked_integer" "checked_integer" (defArgs sChecked) (defBody sChecked) (defScope sChecked) .none kVkC dckC pmkC ankC cdkC ctkC), slkC⟩)
    (ckC : PySem.W.codeIn K cdkC "checked_integer" = true)
    (kkC : PySem.W.keepIn K (.ref kC) = true)
    (akE : PySem.W.nsIn K mainGlobals "equal" = some (some (.ref kE)))
    (lkE : K.lookup kE = some ⟨ockE, odkE, .func (PySem.W.fnOf "equal" "equal" (defArgs sEqual) (defBody sEqual) (defScope sEqual) .none kVkE dckE pmkE ankE cdkE ctkE), slkE⟩)
    (ckE : PySem.W.codeIn K cdkE "equal" = true)
    (kkE : PySem.W.keepIn K (.ref kE) = true)
    (akA : PySem.W.nsIn K mainGlobals "add" = some (some (.ref kA)))
    (lkA : K.lookup kA = some ⟨ockA, odkA, .func (PySem.W.fnOf "add" "add" (defArgs sAdd) (defBody sAdd) (defScope sAdd) .none kVkA dckA pmkA ankA cdkA ctkA), slkA⟩)
    (ckA : PySem.W.codeIn K cdkA "add" = true)
    (kkA : PySem.W.keepIn K (.ref kA) = true)
    (akO : PySem.W.nsIn K mainGlobals "compare" = some (some (.ref kO)))
    (lkO : K.lookup kO = some ⟨ockO, odkO, .func (PySem.W.fnOf "compare" "compare" (defArgs sCompare) (defBody sCompare) (defScope sCompare) .none kVkO dckO pmkO ankO cdkO ctkO), slkO⟩)
    (ckO : PySem.W.codeIn K cdkO "compare" = true)
    (kkO : PySem.W.keepIn K (.ref kO) = true)
    (akL : PySem.W.nsIn K mainGlobals "calculate" = some (some (.ref kL)))
    (lkL : K.lookup kL = some ⟨ockL, odkL, .func (PySem.W.fnOf "calculate" "calculate" (defArgs sCalculate) (defBody sCalculate) (defScope sCalculate) .none kVkL dckL pmkL ankL cdkL ctkL), slkL⟩)
    (ckL : PySem.W.codeIn K cdkL "calculate" = true)
    (kkL : PySem.W.keepIn K (.ref kL) = true)
    (akN : PySem.W.nsIn K mainGlobals "binary" = some (some (.ref kN)))
    (lkN : K.lookup kN = some ⟨ockN, odkN, .func (PySem.W.fnOf "binary" "binary" (defArgs sBinary) (defBody sBinary) (defScope sBinary) .none kVkN dckN pmkN ankN cdkN ctkN), slkN⟩)
    (ckN : PySem.W.codeIn K cdkN "binary" = true)
    (kkN : PySem.W.keepIn K (.ref kN) = true)
    (akU : PySem.W.nsIn K mainGlobals "unary" = some (some (.ref kU)))
    (lkU : K.lookup kU = some ⟨ockU, odkU, .func (PySem.W.fnOf "unary" "unary" (defArgs sUnary) (defBody sUnary) (defScope sUnary) .none kVkU dckU pmkU ankU cdkU ctkU), slkU⟩)
    (ckU : PySem.W.codeIn K cdkU "unary" = true)
    (kkU : PySem.W.keepIn K (.ref kU) = true)
    (akT : PySem.W.nsIn K mainGlobals "is_true" = some (some (.ref kT)))
    (lkT : K.lookup kT = some ⟨ockT, odkT, .func (PySem.W.fnOf "is_true" "is_true" (defArgs sIsTrue) (defBody sIsTrue) (defScope sIsTrue) .none kVkT dckT pmkT ankT cdkT ctkT), slkT⟩)
    (ckT : PySem.W.codeIn K cdkT "is_true" = true)
    (kkT : PySem.W.keepIn K (.ref kT) = true)
    (alC : PySem.W.nsIn K mainGlobals "_law_cell" = some (some (.ref lC)))
    (llC : K.lookup lC = some ⟨oclC, odlC, .func (PySem.W.fnOf "_law_cell" "_law_cell" (defArgs sCell) (defBody sCell) (defScope sCell) .none kVlC dclC pmlC anlC cdlC ctlC), sllC⟩)
    (clC : PySem.W.codeIn K cdlC "_law_cell" = true)
    (klC : PySem.W.keepIn K (.ref lC) = true)
    (alB : PySem.W.nsIn K mainGlobals "_law_begin" = some (some (.ref lB)))
    (llB : K.lookup lB = some ⟨oclB, odlB, .func (PySem.W.fnOf "_law_begin" "_law_begin" (defArgs sBegin) (defBody sBegin) (defScope sBegin) .none kVlB dclB pmlB anlB cdlB ctlB), sllB⟩)
    (clB : PySem.W.codeIn K cdlB "_law_begin" = true)
    (klB : PySem.W.keepIn K (.ref lB) = true)
    (alD : PySem.W.nsIn K mainGlobals "_law_draw" = some (some (.ref lD)))
    (llD : K.lookup lD = some ⟨oclD, odlD, .func (PySem.W.fnOf "_law_draw" "_law_draw" (defArgs sDraw) (defBody sDraw) (defScope sDraw) .none kVlD dclD pmlD anlD cdlD ctlD), sllD⟩)
    (clD : PySem.W.codeIn K cdlD "_law_draw" = true)
    (klD : PySem.W.keepIn K (.ref lD) = true)
    (alG : PySem.W.nsIn K mainGlobals "_law_greatest" = some (some (.ref lG)))
    (llG : K.lookup lG = some ⟨oclG, odlG, .func (PySem.W.fnOf "_law_greatest" "_law_greatest" (defArgs sGreatest) (defBody sGreatest) (defScope sGreatest) .none kVlG dclG pmlG anlG cdlG ctlG), sllG⟩)
    (clG : PySem.W.codeIn K cdlG "_law_greatest" = true)
    (klG : PySem.W.keepIn K (.ref lG) = true)
    (alN : PySem.W.nsIn K mainGlobals "_law_number" = some (some (.ref lN)))
    (llN : K.lookup lN = some ⟨oclN, odlN, .func (PySem.W.fnOf "_law_number" "_law_number" (defArgs sNumber) (defBody sNumber) (defScope sNumber) .none kVlN dclN pmlN anlN cdlN ctlN), sllN⟩)
    (clN : PySem.W.codeIn K cdlN "_law_number" = true)
    (klN : PySem.W.keepIn K (.ref lN) = true)
    (alT : PySem.W.nsIn K mainGlobals "_law_told" = some (some (.ref lT)))
    (llT : K.lookup lT = some ⟨oclT, odlT, .func (PySem.W.fnOf "_law_told" "_law_told" (defArgs sTold) (defBody sTold) (defScope sTold) .none kVlT dclT pmlT anlT cdlT ctlT), sllT⟩)
    (clT : PySem.W.codeIn K cdlT "_law_told" = true)
    (klT : PySem.W.keepIn K (.ref lT) = true)
    (alU : PySem.W.nsIn K mainGlobals "_law_due" = some (some (.ref lU)))
    (llU : K.lookup lU = some ⟨oclU, odlU, .func (PySem.W.fnOf "_law_due" "_law_due" (defArgs sDue) (defBody sDue) (defScope sDue) .none kVlU dclU pmlU anlU cdlU ctlU), sllU⟩)
    (clU : PySem.W.codeIn K cdlU "_law_due" = true)
    (klU : PySem.W.keepIn K (.ref lU) = true)
    (alO : PySem.W.nsIn K mainGlobals "_law_compared" = some (some (.ref lO)))
    (llO : K.lookup lO = some ⟨oclO, odlO, .func (PySem.W.fnOf "_law_compared" "_law_compared" (defArgs sCompared) (defBody sCompared) (defScope sCompared) .none kVlO dclO pmlO anlO cdlO ctlO), sllO⟩)
    (clO : PySem.W.codeIn K cdlO "_law_compared" = true)
    (klO : PySem.W.keepIn K (.ref lO) = true)
    (alI : PySem.W.nsIn K mainGlobals "_law_is_integer" = some (some (.ref lI)))
    (llI : K.lookup lI = some ⟨oclI, odlI, .func (PySem.W.fnOf "_law_is_integer" "_law_is_integer" (defArgs sIsInteger) (defBody sIsInteger) (defScope sIsInteger) .none kVlI dclI pmlI anlI cdlI ctlI), sllI⟩)
    (clI : PySem.W.codeIn K cdlI "_law_is_integer" = true)
    (klI : PySem.W.keepIn K (.ref lI) = true)
    (alaw : PySem.W.nsIn K mainGlobals "law" = some (some (.ref fL)))
    (llaw : K.lookup fL = some ⟨oclaw, odlaw, .func (PySem.W.fnOf "law" "law" (defArgs sLaw) (defBody sLaw) (defScope sLaw) .none kVlaw dclaw pmlaw anlaw cdlaw ctlaw), sllaw⟩)
    (claw : PySem.W.codeIn K cdlaw "law" = true)
    (klaw : PySem.W.keepIn K (.ref fL) = true)
    (zrange : PySem.W.nsIn K mainGlobals "range" = some none)
    (zlen : PySem.W.nsIn K mainGlobals "len" = some none)
    (zint : PySem.W.nsIn K mainGlobals "int" = some none)
    (zstr : PySem.W.nsIn K mainGlobals "str" = some none)
    (zbool : PySem.W.nsIn K mainGlobals "bool" = some none)
    (zisinstance : PySem.W.nsIn K mainGlobals "isinstance" = some none)
    (zlist : PySem.W.nsIn K mainGlobals "list" = some none)
    (zabs : PySem.W.nsIn K mainGlobals "abs" = some none)
    (zmin : PySem.W.nsIn K mainGlobals "min" = some none)
    (zmax : PySem.W.nsIn K mainGlobals "max" = some none)
    : ∃ fd : FuncData, (∀ (s : Shared) (v : Value), BindsTo s fd ⟨[v], []⟩ [("script", v)]) ∧ ∀ base : Heap, K.In base → base.Ns mainGlobals mg → FnOk l.prog w K mg base CX0 7 fa fd ["script"] (spLaw K) := by
  have e := hfa.symm.trans (PySem.W.mg_of X G alaw)
  cases e
  have B : Bl mg := ⟨PySem.W.mg_none_of X G zrange, PySem.W.mg_none_of X G zlen, PySem.W.mg_none_of X G zint, PySem.W.mg_none_of X G zstr, PySem.W.mg_none_of X G zbool, PySem.W.mg_none_of X G zisinstance, PySem.W.mg_none_of X G zlist, PySem.W.mg_none_of X G zabs, PySem.W.mg_none_of X G zmin, PySem.W.mg_none_of X G zmax⟩
  have FIK := fun_mk (st := sIK) lIK cIK kIK
  have bIK := FIK.binds (ps := ["self", "name", "parent"]) fun _ _ _ _ _ _ us hl => match us, hl with | [_, _, _], _ => rfl
  have FIS := fun_mk (st := sIS) lIS cIS kIS
  have bIS := FIS.binds (ps := ["self", "lines"]) fun _ _ _ _ _ _ us hl => match us, hl with | [_, _], _ => rfl
  have FkK := fun_mk (st := sKindOf) lkK ckK kkK
  have bkK := FkK.binds (ps := ["store", "value"]) fun _ _ _ _ _ _ us hl => match us, hl with | [_, _], _ => rfl
  have FkS := fun_mk (st := sKindsOf) lkS ckS kkS
  have bkS := FkS.binds (ps := ["store", "x", "y"]) fun _ _ _ _ _ _ us hl => match us, hl with | [_, _, _], _ => rfl
  have FkB := fun_mk (st := sIsBounded) lkB ckB kkB
  have bkB := FkB.binds (ps := ["number"]) fun _ _ _ _ _ _ us hl => match us, hl with | [_], _ => rfl
  have FkC := fun_mk (st := sChecked) lkC ckC kkC
  have bkC := FkC.binds (ps := ["number"]) fun _ _ _ _ _ _ us hl => match us, hl with | [_], _ => rfl
  have FkE := fun_mk (st := sEqual) lkE ckE kkE
  have bkE := FkE.binds (ps := ["x", "y"]) fun _ _ _ _ _ _ us hl => match us, hl with | [_, _], _ => rfl
  have FkA := fun_mk (st := sAdd) lkA ckA kkA
  have bkA := FkA.binds (ps := ["store", "x", "y"]) fun _ _ _ _ _ _ us hl => match us, hl with | [_, _, _], _ => rfl
  have FkO := fun_mk (st := sCompare) lkO ckO kkO
  have bkO := FkO.binds (ps := ["store", "operator", "x", "y"]) fun _ _ _ _ _ _ us hl => match us, hl with | [_, _, _, _], _ => rfl
  have FkL := fun_mk (st := sCalculate) lkL ckL kkL
  have bkL := FkL.binds (ps := ["store", "operator", "x", "y"]) fun _ _ _ _ _ _ us hl => match us, hl with | [_, _, _, _], _ => rfl
  have FkN := fun_mk (st := sBinary) lkN ckN kkN
  have bkN := FkN.binds (ps := ["store", "operator", "x", "y"]) fun _ _ _ _ _ _ us hl => match us, hl with | [_, _, _, _], _ => rfl
  have FkU := fun_mk (st := sUnary) lkU ckU kkU
  have bkU := FkU.binds (ps := ["store", "operator", "x"]) fun _ _ _ _ _ _ us hl => match us, hl with | [_, _, _], _ => rfl
  have FkT := fun_mk (st := sIsTrue) lkT ckT kkT
  have bkT := FkT.binds (ps := ["value"]) fun _ _ _ _ _ _ us hl => match us, hl with | [_], _ => rfl
  have FlC := fun_mk (st := sCell) llC clC klC
  have blC := FlC.binds (ps := ["script", "k"]) fun _ _ _ _ _ _ us hl => match us, hl with | [_, _], _ => rfl
  have FlB := fun_mk (st := sBegin) llB clB klB
  have blB := FlB.binds (ps := ["script", "k"]) fun _ _ _ _ _ _ us hl => match us, hl with | [_, _], _ => rfl
  have FlD := fun_mk (st := sDraw) llD clD klD
  have blD := FlD.binds (ps := ["state", "many"]) fun _ _ _ _ _ _ us hl => match us, hl with | [_, _], _ => rfl
  have FlG := fun_mk (st := sGreatest) llG clG klG
  have blG := FlG.binds (ps := []) fun _ _ _ _ _ _ us hl => match us, hl with | [], _ => rfl
  have FlN := fun_mk (st := sNumber) llN clN klN
  have blN := FlN.binds (ps := ["state"]) fun _ _ _ _ _ _ us hl => match us, hl with | [_], _ => rfl
  have FlT := fun_mk (st := sTold) llT clT klT
  have blT := FlT.binds (ps := ["operator", "x", "y"]) fun _ _ _ _ _ _ us hl => match us, hl with | [_, _, _], _ => rfl
  have FlU := fun_mk (st := sDue) llU clU klU
  have blU := FlU.binds (ps := ["operator", "x", "y"]) fun _ _ _ _ _ _ us hl => match us, hl with | [_, _, _], _ => rfl
  have FlO := fun_mk (st := sCompared) llO clO klO
  have blO := FlO.binds (ps := ["operator", "x", "y"]) fun _ _ _ _ _ _ us hl => match us, hl with | [_, _, _], _ => rfl
  have FlI := fun_mk (st := sIsInteger) llI clI klI
  have blI := FlI.binds (ps := ["told"]) fun _ _ _ _ _ _ us hl => match us, hl with | [_], _ => rfl
  have Flaw := fun_mk (st := sLaw) llaw claw klaw
  have oex : OexC K cE := ⟨⟨nm, q, N, bs, _, sn, sub, ab, col, dd, m0, m1, m2, m3, m5, xE, by rfl⟩, saE, exE, tyE, kpE⟩
  have T : Exn l.prog K mg cE fI "kind" "message" := ⟨oex, n1E, n2E, iE, tiE, ⟨gaE, ggE, exE, hdE⟩, PySem.W.exm_ref exE hdE tyE ssE⟩
  have U : Sup l.prog K mg cda cc cE cE := ⟨⟨_, _, _, _, _, _, coE, cvE, fiE⟩, ⟨_, _, _, ceE⟩, toE, PySem.W.mg_none_of X G suE, (PySem.W.any_some hdE).imp fun _ h => h.1, mrE, opE, ksE, vaE⟩
  have bE : Binds K (PySem.W.ksFn "__init__" "ScriptError.__init__" (defArgs sSE) (defBody sSE) (defScope sSE) .none kVE dcE pmE anE (.ref cda) ctE cc) ["self", "kind", "message"] [] := .all fun us hl => match us, hl with | [_, _, _], _ => rfl
  have Z : Ex l.prog K mg cE cL cW fI _ := ⟨T, fun _ _ => ok_SE liE ciE T U, bE, PySem.W.mg_of X G uE, PySem.W.mg_of X G uL, PySem.W.mg_of X G uW, ⟨gaE, ggE, exE, hdE, haE, hnE, htE, hmE⟩, klE, kwE⟩
  have S : Sd K mg cK cS fK fS _ _ := ⟨⟨pgK, hdK, poK, saK, nK_name, nK_parent, nK_methods, pgS, hdS, poS, saS, nS_things, nS_output, nS_lines, nS_taken, PySem.W.mg_of X G uK, PySem.W.mg_of X G uS⟩, ⟨mkK, aIK, iIK, kcK⟩, FIK, bIK, ⟨mkS, aIS, iIS, kcS⟩, FIS, bIS⟩
  have D : Pd K mg kK kS kB kC _ _ _ _ := ⟨FkK, bkK, PySem.W.mg_of X G akK, FkS, bkS, PySem.W.mg_of X G akS, FkB, bkB, PySem.W.mg_of X G akB, FkC, bkC, PySem.W.mg_of X G akC, ⟨_, PySem.W.mg_of X G dB⟩⟩
  have R : Pe K mg kE kA kO kL oA _ _ _ _ := ⟨FkE, bkE, PySem.W.mg_of X G akE, FkA, bkA, PySem.W.mg_of X G akA, FkO, bkO, PySem.W.mg_of X G akO, FkL, bkL, PySem.W.mg_of X G akL, PySem.W.mg_of X G utO, fun H => .inr ⟨_, _, _, ltO, rfl, rfl, nO, vO⟩⟩
  have L : Ld K mg lC lB lD lG _ _ _ _ := ⟨FlC, blC, PySem.W.mg_of X G alC, FlB, blB, PySem.W.mg_of X G alB, FlD, blD, PySem.W.mg_of X G alD, FlG, blG, PySem.W.mg_of X G alG⟩
  have M : Le K mg lN lT lU lO lI kN kU kT _ _ _ _ _ _ _ _ := ⟨FlN, blN, PySem.W.mg_of X G alN, FlT, blT, PySem.W.mg_of X G alT, FlU, blU, PySem.W.mg_of X G alU, FlO, blO, PySem.W.mg_of X G alO, FlI, blI, PySem.W.mg_of X G alI, FkN, bkN, PySem.W.mg_of X G akN, FkU, bkU, PySem.W.mg_of X G akU, FkT, bkT, PySem.W.mg_of X G akT⟩
  exact ⟨PySem.W.fnOf "law" "law" (defArgs sLaw) (defBody sLaw) (defScope sLaw) .none kVlaw dclaw pmlaw anlaw cdlaw ctlaw, fun s v => .of_eq rfl, fun base _ _ => ok_law Flaw B D Z R S L M⟩
end My
open PySem PySem.W PyProof.Rows
set_option maxRecDepth 100000 in
set_option maxHeartbeats 0 in
theorem PySem.Challenge.cw_livequill_k17_operators_of_integers_holds : PySem.Challenge.rw_livequill_k17_operators_of_integers.Holds := by
  w_on; o_law; k_head; (case hw => w_witness2)
  k_fill
  refine L2.walk_of (l := PySem.Challenge.rw_livequill_k17_operators_of_integers) (n := 63) (k := 7) (x := "script") (CX := fun _ => L2.CX0) (sp := fun w => My.spLaw _) rfl (by decide) rfl ⟨rfl, by decide, by decide⟩ (fun w h Y => PySem.W.kIn_of Y) ?F (fun _ _ a ns hl _ hS => ⟨a, ns, rfl, hS, hl, fun _ => rfl⟩) (fun _ _ _ _ _ h => h)
  case F =>
    intro w mg fa h KX G hmg
    refine' My.all_mk KX G hmg ?uK ?mkK ?kcK ?pgK ?hdK ?poK ?saK ?nK_name ?nK_parent ?nK_methods ?uS ?mkS ?kcS ?pgS ?hdS ?poS ?saS ?nS_things ?nS_output ?nS_lines ?nS_taken ?uE ?uL ?uW ?xE ?saE ?exE ?tyE ?kpE ?n1E ?n2E ?iE ?tiE ?gaE ?ggE ?hdE ?ssE ?liE ?ciE ?coE ?cvE ?fiE ?ceE ?toE ?suE ?mrE ?opE ?ksE ?vaE ?haE ?hnE ?htE ?hmE ?klE ?kwE ?dB ?utO ?ltO ?vO ?nO ?aIK ?iIK ?lIK ?cIK ?kIK ?aIS ?iIS ?lIS ?cIS ?kIS ?akK ?lkK ?ckK ?kkK ?akS ?lkS ?ckS ?kkS ?akB ?lkB ?ckB ?kkB ?akC ?lkC ?ckC ?kkC ?akE ?lkE ?ckE ?kkE ?akA ?lkA ?ckA ?kkA ?akO ?lkO ?ckO ?kkO ?akL ?lkL ?ckL ?kkL ?akN ?lkN ?ckN ?kkN ?akU ?lkU ?ckU ?kkU ?akT ?lkT ?ckT ?kkT ?alC ?llC ?clC ?klC ?alB ?llB ?clB ?klB ?alD ?llD ?clD ?klD ?alG ?llG ?clG ?klG ?alN ?llN ?clN ?klN ?alT ?llT ?clT ?klT ?alU ?llU ?clU ?klU ?alO ?llO ?clO ?klO ?alI ?llI ?clI ?klI ?alaw ?llaw ?claw ?klaw ?zrange ?zlen ?zint ?zstr ?zbool ?zisinstance ?zlist ?zabs ?zmin ?zmax
    (case uK => k_is)
    (case mkK => k_is)
    (case kcK => k_is)
    (case pgK => k_is)
    (case hdK => k_is)
    (case poK => k_is)
    (case saK => k_is)
    (case nK_name => k_is)
    (case nK_parent => k_is)
    (case nK_methods => k_is)
    (case uS => k_is)
    (case mkS => k_is)
    (case kcS => k_is)
    (case pgS => k_is)
    (case hdS => k_is)
    (case poS => k_is)
    (case saS => k_is)
    (case nS_things => k_is)
    (case nS_output => k_is)
    (case nS_lines => k_is)
    (case nS_taken => k_is)
    (case uE => k_is)
    (case uL => k_is)
    (case uW => k_is)
    (case xE => k_is)
    (case saE => k_is)
    (case exE => k_is)
    (case tyE => k_is)
    (case kpE => k_is)
    (case n1E => k_is)
    (case n2E => k_is)
    (case iE => k_is)
    (case tiE => k_is)
    (case gaE => k_is)
    (case ggE => k_is)
    (case hdE => k_is)
    (case ssE => first | rfl | k_is)
    (case liE => k_is)
    (case ciE => k_is)
    (case coE => k_is)
    (case cvE => rfl)
    (case fiE => first | rfl | decide +kernel)
    (case ceE => k_is)
    (case toE => first | rfl | decide +kernel)
    (case suE => k_is)
    (case mrE => k_is)
    (case opE => k_is)
    (case ksE => ks_is)
    (case vaE => k_is)
    (case haE => k_is)
    (case hnE => k_is)
    (case htE => k_is)
    (case hmE => k_is)
    (case klE => kit_is)
    (case kwE => kit_is)
    (case dB => k_is)
    (case utO => k_is)
    (case ltO => k_is)
    (case vO => repeat (first | exact PySem.Paired.nil | refine PySem.Paired.cons ⟨_, rfl⟩ ?_))
    (case nO => (rw [sizeLine_eq]; decide))
    (case aIK => k_is)
    (case iIK => k_is)
    (case lIK => k_is)
    (case cIK => k_is)
    (case kIK => k_is)
    (case aIS => k_is)
    (case iIS => k_is)
    (case lIS => k_is)
    (case cIS => k_is)
    (case kIS => k_is)
    (case akK => k_is)
    (case lkK => k_is)
    (case ckK => k_is)
    (case kkK => k_is)
    (case akS => k_is)
    (case lkS => k_is)
    (case ckS => k_is)
    (case kkS => k_is)
    (case akB => k_is)
    (case lkB => k_is)
    (case ckB => k_is)
    (case kkB => k_is)
    (case akC => k_is)
    (case lkC => k_is)
    (case ckC => k_is)
    (case kkC => k_is)
    (case akE => k_is)
    (case lkE => k_is)
    (case ckE => k_is)
    (case kkE => k_is)
    (case akA => k_is)
    (case lkA => k_is)
    (case ckA => k_is)
    (case kkA => k_is)
    (case akO => k_is)
    (case lkO => k_is)
    (case ckO => k_is)
    (case kkO => k_is)
    (case akL => k_is)
    (case lkL => k_is)
    (case ckL => k_is)
    (case kkL => k_is)
    (case akN => k_is)
    (case lkN => k_is)
    (case ckN => k_is)
    (case kkN => k_is)
    (case akU => k_is)
    (case lkU => k_is)
    (case ckU => k_is)
    (case kkU => k_is)
    (case akT => k_is)
    (case lkT => k_is)
    (case ckT => k_is)
    (case kkT => k_is)
    (case alC => k_is)
    (case llC => k_is)
    (case clC => k_is)
    (case klC => k_is)
    (case alB => k_is)
    (case llB => k_is)
    (case clB => k_is)
    (case klB => k_is)
    (case alD => k_is)
    (case llD => k_is)
    (case clD => k_is)
    (case klD => k_is)
    (case alG => k_is)
    (case llG => k_is)
    (case clG => k_is)
    (case klG => k_is)
    (case alN => k_is)
    (case llN => k_is)
    (case clN => k_is)
    (case klN => k_is)
    (case alT => k_is)
    (case llT => k_is)
    (case clT => k_is)
    (case klT => k_is)
    (case alU => k_is)
    (case llU => k_is)
    (case clU => k_is)
    (case klU => k_is)
    (case alO => k_is)
    (case llO => k_is)
    (case clO => k_is)
    (case klO => k_is)
    (case alI => k_is)
    (case llI => k_is)
    (case clI => k_is)
    (case klI => k_is)
    (case alaw => k_is)
    (case llaw => k_is)
    (case claw => k_is)
    (case klaw => k_is)
    (case zrange => k_is)
    (case zlen => k_is)
    (case zint => k_is)
    (case zstr => k_is)
    (case zbool => k_is)
    (case zisinstance => k_is)
    (case zlist => k_is)
    (case zabs => k_is)
    (case zmin => k_is)
    (case zmax => k_is)
