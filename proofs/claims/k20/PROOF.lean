import PyProof.Rows.All
import Wide.All
import OpenK.AllK
import Wide.FinOn
import HandS.ForMost
import HandS.ForExc
import HandS.StrMore
import HandS.IsInst
import HandS.Codes
import HandS.Gcd
import HandS.Zip
import HandS.Zip0
import KE.GoesZip
import KE.GoesMore
import HandS.Walk
import KE.KMathG
import HandS.Text
import HandS.Flow
import HandS.More
import HandS.Walk
import HandS.OwnEq
import HandS.Style
import PyProof.Raises
import KE.RegKIsAll
import KE.KSuper
import KE.KExcSuper
import HandS.ExcInit
import HandS.Nested
import HandS.FStr
import HandS.ExcField
import HandS.ExcIs
import HandS.Wide
import HandS.Replace
import KE.GoesEnum
import HandS.ReplaceDef
import HandS.ReplaceLit
import HandS.ReplaceList
import HandS.WideBits
import HandS.ExcCtx
import HandS.HotCalls
import HandS.Deep
import HandS.CallLocal
import HandS.CallSlots
import HandS.Star
import HandS.TupLen
import HandS.Property
import KE.KStar
import KE.KeyNested
import KE.KDictCopyH
import KE.KDictList
import PyProof.StrBlock2
import HandS.Conv
import KE.KDictWalk
import PyProof.DictValues
import PyProof.DictRoadsH
import PyProof.DictMoreH
import PyProof.Rows.TupTab
import PySem.Challenge.RW_livequill_k20_lists_by_methods
set_option Elab.async false
set_option linter.all false
set_option maxRecDepth 100000
namespace XS
open PySem PySem.W PySem.Calls PyProof.Rows L2 NdefX
/-! ### an own exception whose __init__ begins with super().__init__(e), over ValueError -/
/-- what the written part says: of the def at fI (its code object at cda, its cell at cc), of the class D in which it is written, and of the class C that is made -/
structure Sup (prog : Program) (K : Frag) (mg : Str → Option Value) (cda cc D C : Addr) : Prop where
  code : ∃ ccl cdd vs ccs file tf, K.lookup cda = some ⟨ccl, cdd, .fields vs, ccs⟩ ∧ vs[2]? = some (.str file tf) ∧ ((prog.main.file : Str) == file) = true
  cell : ∃ cl cld csl, K.lookup cc = some ⟨cl, cld, .cell (some (.ref D)), csl⟩
  top : (prog.main.scope.names.lookup ("super" : Str)).isSome = false
  sup : mg "super" = none
  cls : ∃ cdD, clsIn K D = some cdD
  sub : mroIn K C (.ref D) = some true
  opq : nsIn K cStatics "thirdparty.any" = some none
  ini : ks_superIn K C D "__init__" = some (some (.builtin "ValueError.__init__"))
  val : subIn K (.ref C) (.type "ValueError") = some true

theorem excInit_exo {cdC : Addr} {K : Frag} (T : OexC K cdC) {h : Heap} (X : K.In h) : ∃ nm q N bs bm sn sub ab col dd k0 k1 k2 k3 k5, h.get? cdC = some (excClassObj nm q cdC N bs bm true sn sub ab col dd k0 k1 k2 k3 k5 "ValueError.__new__") ∧ PySem.HandSPX.refsVE bm = true := by
  obtain ⟨nm, q, N, bs, bm, sn, sub, ab, col, dd, k0, k1, k2, k3, k5, hC, hbm⟩ := T.cls
  exact ⟨nm, q, N, bs, bm, sn, sub, ab, col, dd, k0, k1, k2, k3, k5, X _ _ hC, hbm⟩

section
variable {X : Cx} {pins : List (Addr × Obj)} {σ : L2.St} {H : Hp} {s : Shared} {x C : Addr} {A : Around} {E : Value → Shared → Prop}
/-- the method-wrapper called -/
theorem mw_call {u : Addr} {us : List Value} {Q : Value → Shared → Prop} (T : OexC X.K C) (I : Inv X pins σ H s) (e : H x = some (exo x C none)) (hu : s.heap.get? u = some (kxs_mw "ValueError.__init__" x)) (hl : us.length ≤ sizeLine)
    (h : ∀ s', Inv X pins σ H s' → Q .none s') : wpAny (model X.prog X.w) A (call (.ref u) us) Q E s := by
  obtain ⟨nm, q, N, bs, bm, sn, sub, ab, col, dd, k0, k1, k2, k3, k5, hC, hbm⟩ := excInit_exo T I.kIn
  obtain ⟨t1, ho⟩ := exo_at I.hok e
  obtain ⟨hp, g, d, t, os⟩ := s
  refine wpAny_call (codeAny_of_tree ?_)
  show wpAny _ A.in1 (callAny (.ref u) ⟨us, []⟩) _ _ _
  simp only [callAny]
  refine wpAny_bind (wpAny_load hu ?_)
  simp only [kxs_mw, show (Value.type "method-wrapper" == Value.type "method" || Value.type "method-wrapper" == Value.type "builtin_function_or_method" || Value.type "method-wrapper" == Value.type "method-wrapper") = true by decide, if_true]
  refine KFB.if_so (by decide) ?_
  refine wpAny_bind (check_bound_init F.excBase_ValueError.toExcCallFacts hC ho rfl ?_)
  refine wpAny_bind (wpAny_pure (wpAny_pure ?_))
  refine ⟨plainId_quiet F.excBase_ValueError.init.plain _, codeAny_builtin F.excBase_ValueError.initEntry ?_⟩
  refine exc_init_tree (cls := .ref C) (t0 := t1) (dv := none) (c2 := .none) (c3 := .none) (b4 := .bool false) ho hl fun h' k hx _ => ?_
  have J := I.write (t' := t) (x := x) (e := x) (o := exo x C none) (by rw [e]; exact True.intro) (.inl rfl) k ⟨_, hx⟩ (exo_ok hx)
  have eu : upd H x (exo x C none) = H := by
    funext b
    by_cases hb : b = x
    · rw [hb, upd_same, e]
    · rw [upd_ne hb]
  rw [eu] at J
  exact h _ J
end
theorem mw_with {M : Model} {A : Around} {E : Value → Shared → Prop} {s : Shared} {u x : Addr} {i : String} {pos : Pos} {env : Env} {e : Expr} {rest : List Expr} {Q : Value → Shared → Prop}
    (he : starEach (e :: rest) env = (false, eval e env) :: starEach rest env) (hplain : (backTo pos (starEach rest env)).any (·.1) = false)
    (h : wpAny M A (spliced (backTo pos (starEach (e :: rest) env))) (fun vs s₁ => KxsAt i u x s₁.heap ∧ wpAny M A (call (.ref u) vs) Q E s₁) E s) :
    wpAny M A (callWith pos (.ref u) [] (backTo pos (starEach (e :: rest) env)) []) Q E s := by
  rw [he] at h ⊢
  refine kxs_callWith (i := i) (x := x) (by show (false || (backTo pos (starEach rest env)).any (·.1)) = false; rw [hplain]; rfl) ?_
  exact evalArgs_plain h
/-- the def's own words -/
structure SupFn where
  qual : Str
  params : Arguments
  rest : List Stmt
  scope : Scope
  cda : Addr
  cc : Addr
  arg : Expr
  p0 : Pos
  p1 : Pos
  p2 : Pos
  p3 : Pos
  p4 : Pos
abbrev SupFn.body (F : SupFn) : List Stmt := .Expr (.Call (.Attribute (.Call (.Name "super" F.p0) [] [] F.p1) "__init__" F.p2) [F.arg] [] F.p3) F.p4 :: F.rest
abbrev SupFn.nf (F : SupFn) : NF := ⟨"__init__", F.qual, F.params, F.body, F.scope, [("__class__", F.cc)], F.cda⟩
def SupFn.Ev (F : SupFn) : Prop := ∀ env : Env, (∃ pl : Sem Bool, eval (.Call (.Attribute (.Call (.Name "super" F.p0) [] [] F.p1) "__init__" F.p2) [F.arg] [] F.p3) env = (do
      let ov ← attributeBase (.Call (.Name "super" F.p0) [] [] F.p1) "__init__" env (eval (.Call (.Name "super" F.p0) [] [] F.p1) env)
      standAt F.p2.atName
      let (f, first) ← holding [ov] (getMethod ov "__init__" pl)
      callWith F.p3 f first (backTo F.p3 (starEach [F.arg] env)) [])) ∧ starEach [F.arg] env = (false, eval F.arg env) :: starEach [] env ∧ swapsWith (.Call (.Attribute (.Call (.Name "super" F.p0) [] [] F.p1) "__init__" F.p2) [F.arg] [] F.p3) none F.p4.line env = pure false
theorem fn_super {CX : CXT} {P : Program} {w : World} {K : Frag} {mg : Str → Option Value} {base : Heap} {k : Nat} {fI D : Addr} {F : SupFn} {dV kV doc pm ct oc : Value} {an od : Option Addr} {osl : Array (Option Value)} {N ps : List Str} {sp : Sp} {ar : Arg}
    (lk : K.lookup fI = some ⟨oc, od, .func (ksFn "__init__" F.qual F.params F.body F.scope dV kV doc pm an (.ref F.cda) ct F.cc), osl⟩) (hcd : codeIn K (.ref F.cda) F.qual = true) (S : NScope N ps ["__class__"] F.scope)
    (hp : (F.params.posonlyargs ++ F.params.args).head? = some ar) (h0 : ps.head? = some ar.arg) (hks : F.scope.names.lookup ("super" : Str) = some .globalImplicit)
    (hev : F.Ev) (len : ∀ vs H Q E, sp vs H Q E → vs.length = ps.length)
    (hbody : ∀ (A : Around) (outer : List Env) (s : Shared) (H : Hp) (vs : List V) (Q : VK) (E : XK), Room k (A.deeper (envF F.nf fI s.heap.objs.size)) → sp vs H Q E →
      ∃ (x C : Addr) (ta : TA) (t : TS), vs.head? = some (.ref x) ∧ H x = some (exo x C none) ∧ OexC K C ∧ Sup P K mg F.cda F.cc D C ∧
        PA (ncx CX P w K mg base N F.nf fI A outer s H E) [F.arg] ta ∧ PSs (ncx CX P w K mg base N F.nf fI A outer s H E) F.rest t ∧
        ta (startF N vs [none]) H fun ws H1 => ws.length ≤ 1000 ∧ H1 x = some (exo x C none) ∧ t { nx := fun _ H' => Q .non H', rt := Q } (startF N vs [none]) H1) :
    FnOk P w K mg base CX (k + 1) fI (ksFn "__init__" F.qual F.params F.body F.scope dV kV doc pm an (.ref F.cda) ct F.cc) ps sp := by
  refine ⟨len, fun A outer s H args us vs Q E hr e0 hb r hsp => ?_⟩
  have hl := len _ _ _ _ hsp
  have KX : K.In s.heap := e0.mod.kin.keeps fun b o e => (e0.bs b o e).1
  have lim : s.heap.NoLimit := e0.mod.nolimit.keeps fun b o e => (e0.bs b o e).1
  obtain ⟨x, C, ta, t, hx0, hx, T, U, pa, pb, hq⟩ := hbody A outer s H vs Q E (hr.deeper _) hsp
  obtain ⟨ccl, cdd, cvs, ccs, file, tf, hcode, hvs, hfile⟩ := U.code
  obtain ⟨cl, cld, csl, hcell⟩ := U.cell
  obtain ⟨cdD, hD⟩ := U.cls
  refine ks_codeAny_call_defAt (fd := ksFn "__init__" F.qual F.params F.body F.scope dV kV doc pm an (.ref F.cda) ct F.cc) (body := F.body) (binds := ps.zip us) hr.depth (KX _ _ lk) rfl lim (codeRec_of KX hcd) rfl hb S.nocell (fun ⟨n, _⟩ hy => S.par n (List.of_mem_zip hy).1) (fun h₁ hns kp => ?_) S.co S.gen S.kind
  have CA : CellsAt F.nf.cl ["__class__"] [none] s.heap H := by
    have hc0 : base.get? F.cc = _ := e0.mod.kin _ _ hcell
    obtain ⟨g1, g2⟩ := e0.bs _ _ hc0
    have key : ∀ y c, F.nf.cl.lookup y = some c → y = "__class__" ∧ c = F.cc := fun y c e => by
      by_cases hy : y = "__class__"
      · subst hy
        have e' : some F.cc = some c := by simpa [List.lookup] using e
        exact ⟨rfl, (Option.some.inj e').symm⟩
      · have hne : (y == ("__class__" : Str)) = false := by simpa using hy
        have e' : (none : Option Addr) = some c := by simpa [List.lookup, hne] using e
        cases e'
    refine ⟨rfl, fun y c e => ?_, fun a b c e1 e2 => (key _ _ e1).1.trans (key _ _ e2).1.symm, fun i y e => ?_⟩
    · obtain ⟨_, rfl⟩ := key y c e
      exact ⟨g2, _, _, g1, rfl⟩
    · obtain rfl : y = "__class__" := by
        cases i with
        | zero => exact (Option.some.inj e).symm
        | succ i => cases e
      refine ⟨F.cc, by simp [List.lookup], fun v e' => ?_⟩
      cases i with
      | zero => cases e'
      | succ i => cases e
  have I : Inv (ncx CX P w K mg base N F.nf fI A outer s H E) [] (startF N vs [none]) H { s with heap := h₁, toks := s.toks + (ps.zip us).length } := inv_startN (F := F.nf) S hr.hd e0 hl r CA hns kp
  generalize hs1 : ({ s with heap := h₁, toks := s.toks + (ps.zip us).length } : Shared) = s1 at I ⊢
  have X1 : K.In s1.heap := I.kIn
  obtain ⟨t1, ho⟩ := exo_at I.hok hx
  obtain ⟨oD, hD1, hD2⟩ : ∃ oD, s1.heap.get? D = some oD ∧ oD.data = .cls cdD := by
    unfold clsIn at hD
    split at hD
    · rename_i c d cd' sl ho
      cases hD
      exact ⟨_, X1 _ _ ho, rfl⟩
    · cases hD
  have J : InstAt s1.heap x { cls := .ref C, dict := none, data := .fields #[.ref t1, .none, .none, .none, .bool false, .none] } C none := ⟨ho, rfl, rfl, trivial⟩
  have hself : ∃ u0 ur, us = u0 :: ur ∧ u0 = .ref x := by
    cases vs with
    | nil => cases hx0
    | cons v vr =>
      cases r with
      | @cons _ u0 _ ur ra rr =>
        obtain rfl : v = V.ref x := Option.some.inj hx0
        exact ⟨_, _, rfl, ra⟩
  obtain ⟨u0, ur, eu, eu0⟩ := hself
  subst eu0
  have hN : ∃ pr, ps = ar.arg :: pr := by
    cases ps with
    | nil => cases h0
    | cons a pr =>
      obtain rfl : a = ar.arg := Option.some.inj h0
      exact ⟨pr, rfl⟩
  obtain ⟨pr, eps⟩ := hN
  have ndP : ps.Nodup := by
    have q := S.nd.sublist (List.take_sublist (ps.length + (["__class__"] : List Str).length) N)
    rw [S.pre] at q
    exact (List.nodup_append.mp q).1
  have hns1 : s1.heap.Ns s.heap.objs.size (fun y => (ps.zip us).reverse.lookup y) := by rw [← hs1]; exact hns
  have hav : (ps.zip us).reverse.lookup ar.arg = some (.ref x) := zip_look (i := 0) ndP (by rw [eps]; rfl) (by rw [eu]; rfl)
  have ea : (ncx CX P w K mg base N F.nf fI A outer s H E).xe = fun e s' => wpAny (model P w) (A.deeper (envF F.nf fI s.heap.objs.size)) (leaving (envF F.nf fI s.heap.objs.size) e) (fun _ s'' => CX outer H s E e s'') (fun e' s'' => CX outer H s E e' s'') s' := rfl
  show _root_.PySem.wpAt (model P w) (A.deeper (envF F.nf fI s.heap.objs.size)) (.func F.body (envF F.nf fI s.heap.objs.size)) (execs F.body (envF F.nf fI s.heap.objs.size)) _ (ncx CX P w K mg base N F.nf fI A outer s H E).xe s1
  obtain ⟨⟨pl, hev1⟩, hev2, hev3⟩ := hev (envF F.nf fI s.heap.objs.size)
  refine ks_wpAt_execs_cons (ks_wpAt_Expr_any (ks_wpAt_MethodCall (pl := pl) ?_ hev1) (by show interactive (envF F.nf fI s.heap.objs.size) = false; simp [interactive, S.kind]) hev3)
  obtain ⟨mb, hb1, hb2⟩ := e0.mod.blt
  refine ks_wpAt_super_base (env := envF F.nf fI s.heap.objs.size) (of := _) (fd := _) (ar := ar) (oc := _) hks (S.frk _ (by simp)) rfl rfl (X1 _ _ lk) rfl hp rfl (X1 _ _ hcode) rfl hvs hfile U.top ?_
  refine ks_loadName_global S.kind hks (loadGlobal_builtin (env := envF F.nf fI s.heap.objs.size) (e0.mod.glob.keeps I.bk) U.sup (hb1.keeps I.bk) ((hb2 _ (by decide)).trans (by decide +kernel)) ⟨rfl, ?_⟩)
  refine wpAny_loadName_free S.kind (S.frk _ (by simp)) rfl ⟨_, X1 _ _ hcell, rfl⟩ ?_
  refine wpAny_loadName_local S.kind (S.par _ (by rw [eps]; simp)) hns1 hav ?_
  refine ks_wpAny_isType_cls hD1 hD2 ⟨rfl, ?_⟩
  clear hns kp
  obtain ⟨hp1, g1, d1, tk1, os1⟩ := s1
  refine ks_wpAny_call_super hD1 hD2 J.at_ J.cls (fun c e => by cases e) (looks_mroIn X1 U.sub) (fun h2 es2 k2 => ?_)
  have I2 := I.kept (t' := tk1) k2
  have X2 : K.In h2 := I2.kIn
  have J2 : InstAt h2 x { cls := .ref C, dict := none, data := .fields #[.ref t1, .none, .none, .none, .bool false, .none] } C none := ⟨k2 _ _ ho, rfl, rfl, trivial⟩
  have hI : Looks (model P w) h2 (isInstance (.ref x) (.type "ValueError")) true := J2.type.andThen (looks_subIn X2 U.val)
  have hini := U.ini
  cases hc : clsIn K C with
  | none => unfold ks_superIn at hini; rw [hc] at hini; cases hini
  | some cd =>
    unfold ks_superIn at hini
    rw [hc] at hini
    refine kxs_getMethod kxs_ValueError es2 (looks_opaque X2 U.opq) (l₀ := cd.mro) (fun A Q E s k q => wpAny_bind ((looks_clsIn X2 hc) A _ E s k (wpAny_pure q))) rfl X2 hini hI (ks_ne X2 J2 hc) rfl ?_
    have k3 : ∀ b o, h2.get? b = some o → (h2.push (kxs_mw "ValueError.__init__" x)).get? b = some o := fun b o e => Heap.get?_push_of_some _ e
    have I3 := I2.kept (h' := h2.push (kxs_mw "ValueError.__init__" x)) (t' := tk1 + 1) k3
    have hu : (h2.push (kxs_mw "ValueError.__init__" x)).get? h2.objs.size = some (kxs_mw "ValueError.__init__" x) := Heap.get?_push_at rfl rfl
    have pin : Inv (ncx CX P w K mg base N F.nf fI A outer s H E) [(h2.objs.size, kxs_mw "ValueError.__init__" x)] (startF N vs [none]) H ⟨h2.push (kxs_mw "ValueError.__init__" x), g1, d1, tk1 + 1, os1⟩ := by
      refine Inv.pins_of I3 fun p hp => ?_
      obtain rfl : p = (h2.objs.size, kxs_mw "ValueError.__init__" x) := by simpa using hp
      refine ⟨hu, I2.hok.fresh (Nat.le_refl _), ?_, I2.nofs (Nat.le_refl _), fun v e => by cases e⟩
      exact Nat.ne_of_gt I2.lt
    refine mw_with (i := "ValueError.__init__") (x := x) hev2 rfl ?_
    refine wpAny_mono (pa.run F.p3 _ _ _ _ _ pin hq) (fun ws s2 hh => ?_) fun e s' hs => hs
    obtain ⟨vs2, H2, I4, r4, hlen, hx4, hq4⟩ := hh
    have hu4 : s2.heap.get? h2.objs.size = some (kxs_mw "ValueError.__init__" x) := (I4.pin (h2.objs.size, kxs_mw "ValueError.__init__" x) (by simp)).1
    refine ⟨hu4, ?_⟩
    have hlw : ws.length ≤ sizeLine := by
      rw [← r4.length, sizeLine_eq]
      omega
    refine mw_call (X := ncx CX P w K mg base N F.nf fI A outer s H E) T I4 hx4 hu4 hlw fun s5 I5 => ?_
    have I6 : Inv (ncx CX P w K mg base N F.nf fI A outer s H E) [] (startF N vs [none]) H2 s5 := I5.pins_of fun p hp => absurd hp (by simp)
    refine wpAt_of_wpAny (wpAny_mono (pb.run [] s5 _ H2 _ I6 hq4) (fun fl s' hs => ?_) fun e s' hs => hs)
    have fin : ∀ {σ' : L2.St} {H' : Hp} {v : V} {u : Value}, Inv (ncx CX P w K mg base N F.nf fI A outer s H E) [] σ' H' s' → L2.RelV v u → Q v H' → CE outer P w H s Q u s' :=
      fun {σ' H' v u} J rv q => ⟨v, H', J.os, J.bare, J.base, J.hok, rv, q⟩
    cases fl with
    | ret u =>
      obtain ⟨v, σ', H', J, rv, q⟩ := hs
      exact fin J rv q
    | next =>
      obtain ⟨σ', H', J, q⟩ := hs
      exact fin (v := V.non) (u := Value.none) J rfl q
    | brk =>
      obtain ⟨_, _, _, q⟩ := hs
      exact False.elim q
    | cont =>
      obtain ⟨_, _, _, q⟩ := hs
      exact False.elim q
end XS
namespace XS
open PySem L2 NdefX
/-- the words of an __init__ that begins with super().__init__(e) -/
def supOf (st : Stmt) (qual : Str) (cda cc : Addr) : SupFn := match defBody st with
  | .Expr (.Call (.Attribute (.Call (.Name _ p0) _ _ p1) _ p2) (a :: _) _ p3) p4 :: rest => ⟨qual, defArgs st, rest, defScope st, cda, cc, a, p0, p1, p2, p3, p4⟩
  | _ => ⟨qual, defArgs st, [], defScope st, cda, cc, .Name "x" ⟨0, 0, 0, 0⟩, ⟨0, 0, 0, 0⟩, ⟨0, 0, 0, 0⟩, ⟨0, 0, 0, 0⟩, ⟨0, 0, 0, 0⟩, ⟨0, 0, 0, 0⟩⟩
/-- an __init__(self, n1, n2) of an own exception: f'..' of both to super's, then both are stored -/
def spTwo (C : Addr) (n1 n2 : Str) : Sp := fun vs H Q _ => ∃ a v1 v2, vs = [.ref a, v1, v2] ∧ H a = some (exo a C none) ∧ (∃ k : Str, v1 = .str k ∧ k.length ≤ 100000) ∧ (∃ k : Str, v2 = .str k ∧ k.length ≤ 100000) ∧
  ∀ d, H d = none → d ≠ a → Q .non (upd (upd (upd H d (exd d [(n1, v1)])) a (exo a C (some d))) d (exd d [(n2, v2), (n1, v1)]))
/-- what the written part says of the class at C and of its __init__ at fI -/
structure Exn (prog : Program) (K : PySem.W.Frag) (mg : Str → Option Value) (C fI : Addr) (n1 n2 : Str) : Prop where
  oex : OexC K C
  n1 : PySem.W.findIn K (.ref C) n1 = some none
  n2 : PySem.W.findIn K (.ref C) n2 = some none
  iC : PySem.W.findIn K (.ref C) "__init__" = some (some (.ref fI))
  tI : PySem.W.typeIn K (.ref fI) = some (.type "function")
  xf : XfC K C
  te : PySem.W.exmOne K (.ref C) (.ref C) = some true
/-- the end of C(e, ..) as the caller has it -/
theorem made_two {C : Addr} {n1 n2 : Str} {v1 v2 : V} {H : Hp} {a d : Addr} (hne : d ≠ a) (ha : H a = none) :
    upd (del (upd (upd (upd (upd H a (exo a C none)) d (exd d [(n1, v1)])) a (exo a C (some d))) d (exd d [(n2, v2), (n1, v1)])) a) d (.xd [(n2, v2), (n1, v1)]) = upd H d (.xd [(n2, v2), (n1, v1)]) := by
  funext b
  by_cases hb : b = d
  · rw [hb, upd_same, upd_same]
  · rw [upd_ne hb, upd_ne hb]
    by_cases hc : b = a
    · rw [hc, del_same, ha]
    · rw [del_ne hc, upd_ne hb, upd_ne hc, upd_ne hb, upd_ne hc]
section
variable {X : Cx} {C fI : Addr} {n1 n2 x : Str} {e : Expr} {es : List Expr} {ta : TA} {p pos pos2 : Pos} {fd : FuncData} {k : Nat}
/-- raise C(e1, e2) -/
theorem ps_raise2 {W : WX} (hc : X.calm = true) (T : Exn X.prog X.K X.mg C fI n1 n2) (F : FnOk X.prog X.w X.K X.mg X.base CX0 k fI fd ["self", n1, n2] (spTwo C n1 n2)) (hr : Room (k + 1) X.A) (tk : Takes X W) (hb : Binds X.K fd ["self", n1, n2] []) (hg : Gl X x) (hm : X.mg x = some (.ref C)) (ha : PA X (e :: es) ta)
    (hdb : (x == ("__debug__" : Str)) = false := by decide) (he : starEach (e :: es) X.env = (false, eval e X.env) :: starEach es X.env := by rfl) (hpl : (backTo pos (starEach es X.env)).any (·.1) = false := by rfl) :
    PS X (.Raise (some (.Call (.Name x p) (e :: es) [] pos)) none pos2) (fun _ σ H => tMkO C (spTwo C n1 n2) [] ta σ H fun cls d H' => W cls d σ H') := ps_raise (pos := pos2) hc tk (pmk_oex (e := e) (es := es) (p := p) (pos := pos) T.oex T.iC T.tI F hr hb .nil pass0 hg hm ha hdb he hpl)
/-- .. its reading, behind the arguments' -/
theorem made2 {k1 k2 : Str} {H1 : Hp} {Q : XK} (z1 : k1.length ≤ 100000) (z2 : k2.length ≤ 100000) (w : ∀ d, H1 d = none → Q (.ref C) (some d) (upd H1 d (.xd [(n2, .str k2), (n1, .str k1)]))) :
    ([.str k1, .str k2] : List V).length ≤ 1000 ∧ ∀ a, H1 a = none → spTwo C n1 n2 (.ref a :: ([.str k1, .str k2] ++ [])) (upd H1 a (exo a C none))
      (fun v H2 => v = .non ∧ ∃ (d : Addr) (fs : List (Str × V)), H2 a = some (exo a C (some d)) ∧ H2 d = some (exd d fs) ∧ H1 d = none ∧ Q (.ref C) (some d) (upd (del H2 a) d (.xd fs))) (fun _ _ _ => False) := by
  refine ⟨by show 2 ≤ 1000; omega, fun a ha => ?_⟩
  refine ⟨a, .str k1, .str k2, rfl, upd_same, ⟨_, rfl, z1⟩, ⟨_, rfl, z2⟩, fun d hd hne => ⟨rfl, d, _, ?_, upd_same, ?_, ?_⟩⟩
  · rw [upd_ne (Ne.symm hne)]
    exact upd_same
  · rw [upd_ne hne] at hd
    exact hd
  · rw [upd_ne hne] at hd
    rw [made_two hne ha]
    exact w d hd
end
end XS
namespace PySem.W
open PySem PySem.Spec PySem.Calls PyProof.Rows
section
variable {prog : Program} {w : World} {A : Around} {E : Value → Shared → Prop} {s : Shared} {K : Frag} {x D : Addr} {ox : Obj}
theorem xs_findObj {C : Addr} {od : Option Obj} {name : Str} {a g : Value} (hc : (clsIn K C).isSome = true) (ha : findIn K (.ref C) name = some (some a)) (hg : specialIn K a "__get__" = some (some g)) (ht : takesIn K a = some true) : findObj K C od name = some (.bind g a) := by
  obtain ⟨cd, hc⟩ := Option.isSome_iff_exists.mp hc
  unfold findObj
  rw [hc, Option.bind_some, ha, Option.bind_some]
  simp [hg, ht]
theorem xs_class {Q : Option Value → Shared → Prop} (hga : findIn K (.ref D) "__getattribute__" = some (some (.builtin "BaseException.__getattribute__"))) (hgt : findIn K (.ref D) "__getattr__" = some none) (hsub : subIn K (.ref D) (.type "BaseException") = some true)
    (hdct : hasDictIn K D = true) (ha : findIn K (.ref D) "__class__" = some (some (.builtin "object.__class__")))
    (hn : specialIn K (.builtin "object.__class__") "__get__" = some (some (.builtin "getset_descriptor.__get__"))) (htk : takesIn K (.builtin "object.__class__") = some true) (hm : mroIn K D (.type "object") = some true)
    {odx : Option Obj} (X : K.In s.heap) (I : InstAt s.heap x ox D odx) (h : Q (some (.ref D)) { s with toks := s.toks + 1 }) : wpAny (model prog w) A (getAttr? (.ref x) "__class__") Q E s := by
  have hf : findObj K D odx "__class__" = some (.bind (.builtin "getset_descriptor.__get__") (.builtin "object.__class__")) := xs_findObj (by obtain ⟨cd, hc, _⟩ := any_some hdct; rw [hc]; rfl) ha hn htk
  obtain ⟨hp, g, d, t, os⟩ := s
  have L0 := I.type (M := model prog w)
  have L1 := looks_findIn (M := model prog w) X hga
  have L2 := looks_findIn (M := model prog w) X hgt
  have L3 := looks_find (M := model prog w) X I hf
  have sub : Looks (model prog w) hp (isInstance (.ref x) (.type "BaseException")) true := L0.andThen (looks_subIn X hsub)
  have hx0 : (false && onTheHeap (Value.builtin "BaseException.__getattribute__")) = false := rfl
  have hx2 : (Value.builtin "BaseException.__getattribute__" == Value.builtin "object.__getattribute__") = false := by decide +kernel
  have hx1 : (onTheHeap (Value.ref D) && Value.builtin "BaseException.__getattribute__" == Value.builtin "object.__getattribute__") = false := by rw [hx2]; rfl
  unfold getAttr? getAttrBy? getAttrBy
  refine wpAny_bind (wpAny_mkText (wpAny_bind (wpAny_attempt (wpAny_holding (wpAny_bind (L0.at (wpAny_bind (L1.at ?_))))))))
  show wpAny _ _ (if (onTheHeap (Value.ref D) && Value.builtin "BaseException.__getattribute__" == Value.builtin "object.__getattribute__") = true then _ else _) _ _ _
  rw [hx1, if_neg Bool.false_ne_true]
  unfold getAttrByItsOwn hookBefore
  refine wpAny_bind ?_
  rw [if_pos (show onTheHeap (Value.ref D) = true from rfl)]
  refine L2.at ?_
  refine wpAny_bind (wpAny_attempt (wpAny_holding ?_))
  unfold callGetattribute
  rw [hx0, if_neg Bool.false_ne_true]
  unfold boundAndCalled
  rw [PySem.F.excAttr_ValueError.ga.bind (.ref x)]
  refine wpAny_bind (wpAny_pure ?_)
  show wpAny _ _ (call (.builtin "BaseException.__getattribute__") [.ref x, .str "__class__" t]) _ _ _
  refine wpAny_call (codeAny_call_builtin PySem.F.excAttr_ValueError.ga.plain PySem.F.entry_bexc_ga ?_)
  refine @check_slot (model prog w) _ _ ⟨hp, g, d, t + 1, os⟩ "BaseException.__getattribute__" "BaseException" "__getattribute__" (.ref x) [.str "__class__" t] [] _ (by decide +kernel) (by decide +kernel) sub (PySem.F.args_bexc_ga (.ref x) (.str "__class__" t)) ?_
  unfold Builtin.«object.__getattribute__»
  refine wpAny_bind (wpAny_of_eq (a := ((Value.ref x : Value), [Value.str "__class__" t])) (by first | rfl | (simp only [slotArgs]; rfl)) ?_)
  refine wpAny_bind (wpAny_pure (wpAny_bind (L0.at (wpAny_bind (L3.at ?_)))))
  show wpAny _ _ (holding [Value.builtin "object.__class__"] (call (.builtin "getset_descriptor.__get__") [.builtin "object.__class__", .ref x, .ref D]) >>= ret) _ _ _
  refine wpAny_bind (wpAny_holding (wpAny_call (class_get (s := ⟨hp, g, d, t + 1, os⟩) (ox := ox) (od := odx) X I hm ?_)))
  refine wpAny_pure ?_
  show wpAny _ _ (handedOut (.ref D)) _ _ _
  rw [handedOut_of (v := .ref D) rfl]
  first
    | exact wpAny_pure (wpAny_pure h)
    | exact wpAny_pure h
    | exact wpAny_pure (wpAny_bind (wpAny_pure (wpAny_pure h)))
theorem xs_kitx {odx : Option Obj} (hga : findIn K (.ref D) "__getattribute__" = some (some (.builtin "BaseException.__getattribute__"))) (hgt : findIn K (.ref D) "__getattr__" = some none) (hsub : subIn K (.ref D) (.type "BaseException") = some true) (hdct : hasDictIn K D = true) (ha : findIn K (.ref D) "__class__" = some (some (.builtin "object.__class__")))
    (hn : specialIn K (.builtin "object.__class__") "__get__" = some (some (.builtin "getset_descriptor.__get__"))) (htk : takesIn K (.builtin "object.__class__") = some true) (hm : mroIn K D (.type "object") = some true) :
    KitX K (.ref x) (.ref D) (fun h => InstAt h x ox D odx) where
  ty := fun _ _ _ I => I.type
  it := fun _ _ X _ => by
    obtain ⟨cdD, hcD, _⟩ := any_some hdct
    unfold clsIn at hcD
    split at hcD
    · rename_i c' d' cd' sl' ho
      intro A' Q' E' s' k q
      unfold isType loadHead
      exact wpAny_bind (wpAny_loadPart (k _ _ (X _ _ ho)) (wpAny_pure q))
    · cases hcD
  ne := fun h tp dd its n sl X htp => by
    obtain ⟨cdD, hcD, _⟩ := any_some hdct
    refine Bool.eq_false_iff.mpr fun q => ?_
    have e : D = tp := Value.ref.inj (beq_iff_eq.mp q)
    subst e
    unfold clsIn at hcD
    split at hcD
    · rename_i c' d' cd' sl' ho
      have z := (X _ _ ho).symm.trans htp
      cases z
    · cases hcD
  ca := fun X I k => xs_class hga hgt hsub hdct ha hn htk hm X I k
end
end PySem.W
namespace L2
open PySem PySem.Spec PyProof.Rows
/-- isinstance(e, c), e the exception that the suite holds, with fields of its own -/
def rIsED (K : PySem.W.Frag) (D a : Addr) (cls : Value) (d : Option Addr) : List V → Hp → VK → Prop := fun xs H Q => ∃ (c : V) (cv : Value) (b : Bool) (dd : Addr) (fs : List (Str × V)), cls = .ref D ∧ d = some dd ∧ xs = [.ref a, c] ∧ (∀ u, RelV c u → u = cv) ∧ H dd = some (.xd fs) ∧ PySem.W.kitOne K (.ref D) cv = some b ∧ Q (.bl b) H
theorem call_isED {X : Cx} {a D : Addr} {oe : Obj} {cls : Value} {d : Option Addr} {pn : List (Addr × Obj)} (C : ExcC X.K D) (hz : Zc cls d oe) (hf : ∃ vs, oe.data = .fields vs) : CallR (X.suite a ((a, oe) :: pn)) (.builtin "isinstance") (rIsED X.K D a cls d) := by
  intro pins s σ H xs us Q I r h
  obtain ⟨c, cv, b, dd, fs, rfl, rfl, rfl, hcv, hdd, e, q⟩ := h
  cases r with
  | cons rx rr =>
    cases rr with
    | cons rt rr =>
      cases rr
      cases rx
      have ec := hcv _ rt
      subst ec
      obtain ⟨hget, _⟩ := I.pin (a, oe) (List.mem_append.mpr (.inl List.mem_cons_self))
      obtain ⟨vs, hv⟩ := hf
      have hx : ObjOk X.prog X.w H s.heap dd (.xd fs) := I.hok dd _ hdd
      obtain ⟨mA, hns, hr⟩ := hx
      obtain ⟨od, ho, hl⟩ := lookIn_ns hns
      have J : PySem.W.InstAt s.heap a oe D (some od) := ⟨hget, hz.1, by unfold PySem.W.notCls; rw [hv] <;> rfl, by rw [hz.2]; exact ho⟩
      exact PySem.W.kia_one (PySem.W.xs_kitx C.hg C.hk C.hs C.hd C.ha C.hn C.ht C.hm) I.kIn J e (fun z => nomatch z) fun tk => ⟨.bl b, H, I.kept (t' := tk) fun _ _ z => z, rfl, q⟩
end L2
/-! own text: a dict whose keys are pairs of a mark (is it a bool?) and a key: null, a bool, a number, a text -/
namespace XT
open PySem PySem.Spec PyProof.Rows L2
def fk : V → NestedKey
  | .bl b => .num (if b = true then 1 else 0) | .int i => .num i | .str x => .text x | _ => .none
def isB : V → Bool
  | .bl _ => true | _ => false
def tk (k : V) : NestedKey := .tup [.num (if isB k = true then 1 else 0), fk k]
def keyOk : V → Bool
  | .non | .bl _ | .int _ | .str _ => true | _ => false
theorem tk_inj {a b : V} (ha : keyOk a = true) (hb : keyOk b = true) (h : tk a = tk b) : a = b := by
  unfold tk at h
  injection h with h
  injection h with h1 h2
  injection h2 with h2 _
  injection h1 with h1
  cases a <;> cases b <;> simp_all [fk, isB, keyOk]
  case bl.bl x y => cases x <;> cases y <;> simp_all
theorem tk_depth (k : V) : (tk k).depth ≤ 8 := by
  cases k <;> simp [tk, fk, NestedKey.depth, NestedKey.depthAll]
abbrev Ent := V × Addr × V
abbrev EV : List Ent → List (NestedKey × Addr × Value) → Prop := Paired fun p q => tk p.1 = q.1 ∧ p.2.1 = q.2.1 ∧ RelV p.2.2 q.2.2
def TabO (P : Program) (w : World) (a : Addr) (es : List Ent) : HO := .ext fun h => (a == sysModules) = false ∧ ∃ xs o ds ep, EV es xs ∧ h.get? a = some o ∧ o.ExactDict ∧ o.data = .dict ds ep ∧ ds.toList = xs.map (entryOfKey (nestedKind P w)) ∧ (xs.map (·.1)).Nodup
structure TabAt (P : Program) (w : World) (H : Hp) (a : Addr) (es : List Ent) : Prop where
  at_ : H a = some (TabO P w a es)
  keys : ∀ e ∈ es, keyOk e.1 = true ∧ H e.2.1 = some (.tup [.bl (isB e.1), e.1])
  len : es.length ≤ 1000000
def valT (es : List Ent) (k : V) : Option V := (es.find? fun e => decide (e.1 = k)).map (·.2.2)
def putT (es : List Ent) (k : V) (b : Addr) (v : V) : List Ent := if (valT es k).isSome = true then es.map (fun e => if e.1 = k then (e.1, e.2.1, v) else e) else es ++ [(k, b, v)]
def dropT (es : List Ent) (k : V) : List Ent := es.filter fun e => decide (e.1 ≠ k)
theorem key_is {P : Program} {w : World} {H : Hp} {h : Heap} {b : Addr} {k : V} (ok : HOk P w H h) (hk : keyOk k = true) (e : H b = some (.tup [.bl (isB k), k])) : (nestedKind P w).is h (tk k) b := by
  obtain ⟨_, its, r, o, h1, h2, n, h3⟩ := (show ObjOk P w H h b (.tup [.bl (isB k), k]) from ok b _ e)
  refine ⟨.tup h1 h2 h3 ?_, tk_depth k⟩
  cases r with
  | cons r1 r2 =>
    cases r2 with
    | cons r2 r3 =>
      cases r3
      cases (show _ = Value.bool (isB k) from r1)
      refine .cons (.bool rfl) (.cons ?_ .nil)
      cases k with
      | non => cases (show _ = Value.none from r2); exact .none
      | bl b => cases (show _ = Value.bool b from r2); exact .bool rfl
      | int i => obtain ⟨t, rfl⟩ := r2; exact .int i t
      | str x => obtain ⟨t, rfl⟩ := r2; exact .text x t
      | _ => exact nomatch hk
theorem EV.val {es : List Ent} {xs : List (NestedKey × Addr × Value)} (r : EV es xs) {k : V} (hk : keyOk k = true) (he : ∀ e ∈ es, keyOk e.1 = true) : RelO (valT es k) ((atKey xs (tk k)).map (·.2)) := by
  induction r with
  | nil => exact True.intro
  | @cons p q ps qs h t ih =>
    obtain ⟨h1, _, h2⟩ := h
    have ih := ih fun e m => he e (List.mem_cons_of_mem _ m)
    unfold valT at ih ⊢
    by_cases e : p.1 = k
    · have e' : q.1 = tk k := by rw [← h1, e]
      have b : atKey (q :: qs) (tk k) = some q.2 := by simp [atKey, List.find?_cons, e']
      rw [b, List.find?_cons, show decide (p.1 = k) = true from decide_eq_true e]
      exact h2
    · have e' : ¬ q.1 = tk k := fun z => e (tk_inj (he p (List.mem_cons_self ..)) hk (h1.trans z))
      have b : atKey (q :: qs) (tk k) = atKey qs (tk k) := by simp [atKey, List.find?_cons, e']
      rw [b, List.find?_cons, show decide (p.1 = k) = false from decide_eq_false e]
      exact ih
theorem EV.put {es : List Ent} {xs : List (NestedKey × Addr × Value)} (r : EV es xs) {k : V} {b : Addr} {v : V} {u : Value} (hk : keyOk k = true) (he : ∀ e ∈ es, keyOk e.1 = true) (rv : RelV v u) : EV (putT es k b v) (storedH xs (tk k) b u) := by
  have e : (valT es k).isSome = (atKey xs (tk k)).isSome := by
    rw [(r.val hk he).isSome_eq, Option.isSome_map]
  unfold putT storedH
  rw [e]
  by_cases q : (atKey xs (tk k)).isSome = true
  · rw [if_pos q, if_pos q]
    clear e q
    induction r with
    | nil => exact .nil
    | @cons p q ps qs h t ih =>
      rw [List.map_cons, List.map_cons]
      refine .cons ?_ (ih fun e m => he e (List.mem_cons_of_mem _ m))
      obtain ⟨h1, h2, h3⟩ := h
      unfold putAt
      by_cases e : p.1 = k
      · rw [if_pos e, if_pos (by rw [← h1, e])]
        exact ⟨h1, h2, rv⟩
      · rw [if_neg e, if_neg (fun z => e (tk_inj (he p (List.mem_cons_self ..)) hk (h1.trans z)))]
        exact ⟨h1, h2, h3⟩
  · rw [if_neg q, if_neg q]
    exact Paired.snoc r ⟨rfl, rfl, rv⟩
theorem EV.drop {es : List Ent} {xs : List (NestedKey × Addr × Value)} (r : EV es xs) {k : V} (hk : keyOk k = true) (he : ∀ e ∈ es, keyOk e.1 = true) : EV (dropT es k) (withoutH xs (tk k)) := by
  unfold dropT withoutH
  induction r with
  | nil => exact .nil
  | @cons p q ps qs h t ih =>
    have ih := ih fun e m => he e (List.mem_cons_of_mem _ m)
    obtain ⟨h1, h2, h3⟩ := h
    rw [List.filter_cons, List.filter_cons]
    by_cases e : p.1 = k
    · have a : ¬ decide (p.1 ≠ k) = true := by simp [e]
      have b : ¬ decide (q.1 ≠ tk k) = true := by simp [← h1, e]
      rw [if_neg a, if_neg b]
      exact ih
    · have e' : ¬ q.1 = tk k := fun z => e (tk_inj (he p (List.mem_cons_self ..)) hk (h1.trans z))
      have a : decide (p.1 ≠ k) = true := by simp [e]
      have b : decide (q.1 ≠ tk k) = true := by simp [e']
      rw [if_pos a, if_pos b]
      exact .cons ⟨h1, h2, h3⟩ ih
theorem TabAt.have {P : Program} {w : World} {H : Hp} {h : Heap} {a : Addr} {es : List Ent} (T : TabAt P w H a es) (ok : HOk P w H h) : (a == sysModules) = false ∧ ∃ xs, EV es xs ∧ h.DictOfH (nestedKind P w) a xs := by
  obtain ⟨⟨hs, xs, o, ds, ep, r, h1, h2, h3, h4, h5⟩, _, _⟩ := (show ObjOk P w H h a (TabO P w a es) from ok a _ T.at_)
  refine ⟨hs, xs, r, o, ds, ep, h1, h2, h3, h4, ?_, h5⟩
  have all : ∀ {l : List Ent} {m : List (NestedKey × Addr × Value)}, EV l m → (∀ e ∈ l, keyOk e.1 = true ∧ H e.2.1 = some (.tup [.bl (isB e.1), e.1])) → ∀ x ∈ m, (nestedKind P w).is h x.1 x.2.1 := by
    intro l m q
    induction q with
    | nil => intro _ x hx; exact nomatch hx
    | @cons p q ps qs hq t ih =>
      intro hl x hx
      rcases List.mem_cons.mp hx with e | hx
      · subst e
        have := hl p (List.mem_cons_self ..)
        rw [← hq.1, ← hq.2.1]
        exact key_is ok this.1 this.2
      · exact ih (fun e m => hl e (List.mem_cons_of_mem _ m)) x hx
  exact all r T.keys
theorem tab_new {P : Program} {w : World} {H : Hp} {h : Heap} {a : Addr} {es : List Ent} {xs : List (NestedKey × Addr × Value)} (hs : (a == sysModules) = false) (r : EV es xs) (d : h.DictOfH (nestedKind P w) a xs) : ObjOk P w H h a (TabO P w a es) := by
  obtain ⟨o, ds, ep, h1, h2, h3, h4, _, h5⟩ := d
  exact ⟨⟨hs, xs, o, ds, ep, r, h1, h2, h3, h4, h5⟩, ⟨o, h1⟩, fun g1 g2 ⟨_, xs', o', ds', ep', r', k1, k2⟩ st => ⟨hs, xs', o', ds', ep', r', st _ k1, k2⟩⟩
theorem room_in1 {A : Around} (hu : A.units + 64 < cLine) {P : Program} {w : World} : (nestedKind P w).room A.in1 := by
  show A.in1.units + 8 < cLine
  have : A.in1.units = A.units + 1 := by first | rfl | simp [Around.in1]
  omega
/-! ### the rules -/
def KeyAt (H : Hp) (b : Addr) (k : V) : Prop := keyOk k = true ∧ H b = some (.tup [.bl (isB k), k])
theorem TabAt.put {P : Program} {w : World} {H : Hp} {a b : Addr} {es : List Ent} {k v : V} (T : TabAt P w H a es) (hk : KeyAt H b k) (hl : es.length < 1000000) : TabAt P w (upd H a (TabO P w a (putT es k b v))) a (putT es k b v) := by
  have ne : ∀ {c : Addr} {ys : List V}, H c = some (.tup ys) → c ≠ a := fun {c ys} e z => by
    rw [z, T.at_] at e
    cases e
  refine ⟨upd_same, fun e he => ?_, ?_⟩
  · have all : keyOk e.1 = true ∧ H e.2.1 = some (.tup [.bl (isB e.1), e.1]) := by
      unfold putT at he
      split at he
      · obtain ⟨e0, h0, e1⟩ := List.mem_map.mp he
        have := T.keys e0 h0
        split at e1
        · subst e1
          exact this
        · subst e1
          exact this
      · rcases List.mem_append.mp he with he | he
        · exact T.keys e he
        · rw [List.mem_singleton] at he
          subst he
          exact hk
    exact ⟨all.1, by rw [upd_ne (ne all.2)]; exact all.2⟩
  · unfold putT
    split
    · rw [List.length_map]
      exact T.len
    · rw [List.length_append, List.length_singleton]
      omega
theorem TabAt.drop {P : Program} {w : World} {H : Hp} {a : Addr} {es : List Ent} {k : V} (T : TabAt P w H a es) : TabAt P w (upd H a (TabO P w a (dropT es k))) a (dropT es k) := by
  have ne : ∀ {c : Addr} {ys : List V}, H c = some (.tup ys) → c ≠ a := fun {c ys} e z => by
    rw [z, T.at_] at e
    cases e
  refine ⟨upd_same, fun e he => ?_, Nat.le_trans (List.length_filter_le _ _) T.len⟩
  have := T.keys e (List.mem_filter.mp he).1
  exact ⟨this.1, by rw [upd_ne (ne this.2)]; exact this.2⟩
theorem TabAt.mono {P : Program} {w : World} {H H' : Hp} {a : Addr} {es : List Ent} (T : TabAt P w H a es) (h1 : H' a = H a) (h2 : ∀ c ys, H c = some (.tup ys) → H' c = some (.tup ys)) : TabAt P w H' a es :=
  ⟨h1.trans T.at_, fun e he => ⟨(T.keys e he).1, h2 _ _ (T.keys e he).2⟩, T.len⟩
theorem sz_ok {es : List Ent} {xs : List (NestedKey × Addr × Value)} (r : EV es xs) (h : es.length ≤ 1000000) : xs.length ≤ sizeLine := by
  rw [← Paired.length r, sizeLine_eq]
  omega
section
variable {X : Cx} {o i value : Expr} {pos pos' tpos : Pos} {td ty tv : TE}
def tTNew (P : Program) (w : World) : TE := fun _ H Q => ∀ p, H p = none → Q (.ref p) (upd H p (TabO P w p []))
def tTGet (P : Program) (w : World) (td ty : TE) : TE := fun σ H Q => td σ H fun x H1 => ty σ H1 fun y H2 => ∃ a b k es v, x = .ref a ∧ y = .ref b ∧ TabAt P w H2 a es ∧ KeyAt H2 b k ∧ valT es k = some v ∧ Q v H2
def tTIn (P : Program) (w : World) (ty td : TE) : TE := fun σ H Q => ty σ H fun y H1 => td σ H1 fun x H2 => ∃ a b k es, x = .ref a ∧ y = .ref b ∧ TabAt P w H2 a es ∧ KeyAt H2 b k ∧ Q (.bl (valT es k).isSome) H2
def sTPut (P : Program) (w : World) (td ty tv : TE) : TS := fun D σ H => tv σ H fun v H1 => td σ H1 fun x H2 => ty σ H2 fun y H3 => ∃ a b k es, x = .ref a ∧ y = .ref b ∧ TabAt P w H3 a es ∧ KeyAt H3 b k ∧ D.nx σ (upd H3 a (TabO P w a (putT es k b v)))
def sTDel (P : Program) (w : World) (td ty : TE) : TS := fun D σ H => td σ H fun x H1 => ty σ H1 fun y H2 => ∃ a b k es, x = .ref a ∧ y = .ref b ∧ TabAt P w H2 a es ∧ KeyAt H2 b k ∧ (valT es k).isSome = true ∧ D.nx σ (upd H2 a (TabO P w a (dropT es k)))
theorem pe_tnew : PE X (.Dict [] [] pos) (tTNew X.prog X.w) := ⟨fun pins s σ H Q I h =>
  wpAny_Dict_empty ⟨.ref s.heap.objs.size, _, I.laid (a := s.heap.objs.size) (o := TabO X.prog X.w s.heap.objs.size []) (t' := s.toks) (fun _ _ q => Heap.get?_push_of_some _ q) (Nat.le_refl _)
    (tab_new (beq_eq_false_iff_ne.mpr (Ne.symm (Nat.ne_of_lt I.big))) .nil (Heap.DictOfH.new _)), rfl, h _ (I.hok.fresh (Nat.le_refl _))⟩⟩
theorem pe_tget (hu : X.A.units + 64 < cLine) (ho : PE X o td) (hi : PE X i ty) (hs : NoSl i) : PE X (.Subscript o i pos) (tTGet X.prog X.w td ty) := by
  refine ⟨fun pins s σ H Q I h => ?_⟩
  refine subD_of PySem.F.slot_dict_getitem.lookup hs (thn (ho.run pins s σ H _ I h) fun u s1 ⟨x, H1, I1, rx, q1⟩ => thn (hi.run pins s1 σ H1 _ I1 q1) fun iv s2 ⟨y, H2, I2, ry, a, b, k, es, v, ex, ey, T, hk, hv, q2⟩ => ?_)
  subst ex ey
  obtain rfl : u = Value.ref a := rx
  obtain rfl : iv = Value.ref b := ry
  obtain ⟨hd, xs, r, dd⟩ := T.have I2.hok
  obtain ⟨w', hw, rw'⟩ := RelO.some_of (v := v) (o := (atKey xs (tk k)).map (·.2)) (by rw [← hv]; exact r.val hk.1 fun e m => (T.keys e m).1)
  obtain ⟨p, hp, hp2⟩ := Option.map_eq_some_iff.mp hw
  refine ⟨dd.typeIs, wpAny_getItem_heap (room_in1 hu) (key_is I2.hok hk.1 hk.2) dd hp ?_⟩
  rw [hp2]
  exact ⟨v, H2, I2.tok _, rw', q2⟩
theorem pc_tin (hu : X.A.units + 64 < cLine) (hi : PE X i ty) (ho : PE X o td) : PC X .In i o (tTIn X.prog X.w ty td) := by
  refine ⟨fun pins s σ H Q I h => ?_⟩
  refine thn (hi.run pins s σ H _ I h) fun iv s1 ⟨y, H1, I1, ry, q1⟩ => thn (ho.run pins s1 σ H1 _ I1 q1) fun u s2 ⟨x, H2, I2, rx, a, b, k, es, ex, ey, T, hk, q2⟩ => ?_
  subst ex ey
  obtain rfl : u = Value.ref a := rx
  obtain rfl : iv = Value.ref b := ry
  obtain ⟨hd, xs, r, dd⟩ := T.have I2.hok
  refine wpAny_in_heap (room_in1 hu) (key_is I2.hok hk.1 hk.2) hd dd ?_
  have q := (r.val hk.1 fun e m => (T.keys e m).1).isSome_eq
  rw [Option.isSome_map] at q
  rw [← q]
  exact ⟨.bl (valT es k).isSome, H2, I2.tok _, rfl, q2⟩
theorem ps_tput (hu : X.A.units + 64 < cLine) (ho : PE X o td) (hi : PE X i ty) (hv : PE X value tv) (hs : swapsWith value (some (.Subscript o i pos')) pos.line X.env = pure false) :
    PS X (.Assign [.Subscript o i pos'] value pos) (sTPut X.prog X.w td ty tv) := by
  refine ⟨fun pins s σ H D I h => ?_⟩
  refine wpAny_Assign_Subscript (thn (hv.run pins s σ H _ I h) fun r s1 ⟨v, H1, I1, rv, q1⟩ => thn (ho.run pins s1 σ H1 _ I1 q1) fun u s2 ⟨x, H2, I2, rx, q2⟩ => thn (hi.run pins s2 σ H2 _ I2 q2) fun iv s3 ⟨y, H3, I3, ry, a, b, k, es, ex, ey, T, hk, q3⟩ => ?_) hs
  subst ex ey
  obtain rfl : u = Value.ref a := rx
  obtain rfl : iv = Value.ref b := ry
  obtain ⟨hd, xs, rr, dd⟩ := T.have I3.hok
  refine wpAny_setItem_heap (hsz := sz_ok rr T.len) (room_in1 hu) (key_is I3.hok hk.1 hk.2) dd fun h' dd' hsb => ?_
  have he : ∃ q, h'.get? a = some q := let ⟨q, _, _, hq, _⟩ := dd'; ⟨q, hq⟩
  exact ⟨σ, _, d_write I3 (by rw [T.at_]; exact True.intro) hsb he (tab_new hd (rr.put hk.1 (fun e m => (T.keys e m).1) rv) dd'), q3⟩
theorem ps_tdel (hu : X.A.units + 64 < cLine) (ho : PE X o td) (hi : PE X i ty) : PS X (.Delete [.Subscript o i tpos] pos) (sTDel X.prog X.w td ty) := by
  refine ⟨fun pins s σ H D I h => ?_⟩
  refine wpAny_Delete (wpAny_deleteEach_cons (wpAny_delete_Subscript (thn (ho.run pins s σ H _ I h) fun u s1 ⟨x, H1, I1, rx, q1⟩ => thn (hi.run pins s1 σ H1 _ I1 q1) fun iv s2 ⟨y, H2, I2, ry, a, b, k, es, ex, ey, T, hk, hv, q2⟩ => ?_)))
  subst ex ey
  obtain rfl : u = Value.ref a := rx
  obtain rfl : iv = Value.ref b := ry
  obtain ⟨hd, xs, rr, dd⟩ := T.have I2.hok
  have he1 : ∀ e ∈ es, keyOk e.1 = true := fun e m => (T.keys e m).1
  obtain ⟨p, hp⟩ : ∃ p, atKey xs (tk k) = some p := by
    have q := (rr.val hk.1 he1).isSome_eq
    rw [Option.isSome_map, hv] at q
    exact Option.isSome_iff_exists.mp q.symm
  refine wpAny_delItem_heap (hsz := sz_ok rr T.len) (room_in1 hu) (key_is I2.hok hk.1 hk.2) hd dd hp fun h' dd' hsb => wpAny_deleteEach_nil ?_
  have he : ∃ q, h'.get? a = some q := let ⟨q, _, _, hq, _⟩ := dd'; ⟨q, hq⟩
  exact ⟨σ, _, d_write I2 (by rw [T.at_]; exact True.intro) hsb he (tab_new hd (rr.drop hk.1 he1) dd'), q2⟩
/-- len(d) -/
theorem call_len_tab : CallR X (.builtin "len") (fun vs H Q => ∃ a es, vs = [.ref a] ∧ TabAt X.prog X.w H a es ∧ Q (.int (es.length : Nat)) H) := by
  intro pins s σ H vs us Q I rv h
  obtain ⟨a, es, rfl, T, q⟩ := h
  obtain ⟨u, rfl, ru⟩ := rv.one
  obtain rfl : u = Value.ref a := ru
  obtain ⟨hd, xs, r, dd⟩ := T.have I.hok
  have hz := sz_ok r T.len
  refine call_len_dictH hd dd (by rw [sizeLine_eq] at hz; omega) ?_
  rw [← Paired.length r]
  exact ⟨.int _, H, I.tok _, ⟨_, rfl⟩, q⟩
end
end XT
/-! own text: the values of such a dict, as a list -/
namespace XT
open PySem PySem.Spec PyProof.Rows L2
def ViewO (d v : Addr) : HO := .ext fun h => h.IsValuesView v d
theorem EV.vals {es : List Ent} {xs : List (NestedKey × Addr × Value)} (r : EV es xs) : Vals (es.map (·.2.2)) (xs.map (·.2.2)) := by
  induction r with
  | nil => exact .nil
  | cons h t ih => exact .cons h.2.2 ih
section
variable {prog : Program} {w : World} {A : Around} {E : Value → Shared → Prop} {s : Shared}
theorem meets_vals (d : Addr) (hd : (d == sysModules) = false) :
    MeetsIn prog w (Builtin.«dict.values» ⟨[.ref d], []⟩) (fun _ R s => s.TypeIs (.ref d) "dict" ∧
      R (.ok (.ret (.ref s.heap.objs.size))) { s with heap := s.heap.push { cls := .type "dict_values", data := .fields #[.ref d] } }) :=
  .of_wp fun A R s ⟨hm, h⟩ => by
    refine wpAny_bind ?_
    unfold Builtin.Dict.noArgs
    refine wpAny_bind (wpAny_notOrdered_dict hm ?_)
    show wpAny _ _ (pure d) _ _ s
    refine wpAny_pure ?_
    show wpAny _ _ (Builtin.Dict.showsAll d >>= _) _ _ s
    unfold Builtin.Dict.showsAll
    rw [if_neg (by rw [hd]; exact Bool.false_ne_true)]
    refine wpAny_bind (wpAny_pure ?_)
    exact wpAny_bind (wpAny_newObj_type (wpAny_pure ⟨_, rfl, h⟩))
end
section
variable {X : Cx} {o : Expr} {to : TE} {apos cpos : Pos}
def tTVals (P : Program) (w : World) (to : TE) : TE := fun σ H Q => to σ H fun x H1 => ∃ a es, x = .ref a ∧ TabAt P w H1 a es ∧ ∀ v, H1 v = none → Q (.ref v) (upd H1 v (ViewO a v))
theorem pe_tvals (ho : PE X o to) (hbase : attributeBase o "values" X.env (eval o X.env) = eval o X.env := by rfl) (hline : (apos.endLine == cpos.line) = true := by rfl) : PE X (.Call (.Attribute o "values" apos) [] [] cpos) (tTVals X.prog X.w to) := by
  refine ⟨fun pins s σ H Q I h => ?_⟩
  refine wpAny_Call_method0_late hbase hline (thn (ho.run pins s σ H _ I h) fun v s1 ⟨x, H1, I1, r1, a, es, ex, T, q1⟩ => ?_)
  subst ex
  obtain rfl : v = Value.ref a := r1
  obtain ⟨hd, xs, r, dd⟩ := T.have I1.hok
  refine ⟨"dict", "dict.values", PySem.F.plainAttrs_dict, PySem.F.slot_dict_values, PySem.F.type_dict_values, dd.typeIs, fun b e => ?_, Calls.callWith_builtin rfl (PySem.evalArgs_none ?_)⟩
  · cases e
    obtain ⟨ob, _, _, h1, h2, _⟩ := dd
    exact ⟨ob, h1, h2.2.1⟩
  refine call_meetsIn PySem.F.slot_dict_values dd.typeIs PySem.F.entry_dict_values (PySem.F.args_dict_values_1 _) (meets_vals a hd) ⟨dd.typeIs, ?_⟩
  have hv : (s1.heap.push { cls := .type "dict_values", data := .fields #[.ref a] }).IsValuesView s1.heap.objs.size a := ⟨_, Heap.get?_push_size _ rfl, rfl, rfl⟩
  refine ⟨.ref s1.heap.objs.size, _, I1.laid (a := s1.heap.objs.size) (o := ViewO a s1.heap.objs.size) (t' := s1.toks) (fun _ _ q => Heap.get?_push_of_some _ q) (Nat.le_refl _) ?_, rfl, q1 _ (I1.hok.fresh (Nat.le_refl _))⟩
  exact ⟨hv, ⟨_, Heap.get?_push_size _ rfl⟩, fun g1 g2 ⟨ob, k1, k2⟩ st => ⟨ob, st _ k1, k2⟩⟩
/-- list(d.values()) -/
theorem call_list_vals (hc : X.calm = true) : CallR X (.type "list") (fun vs H Q => ∃ v a es, vs = [.ref v] ∧ H v = some (ViewO a v) ∧ TabAt X.prog X.w H a es ∧ ∀ l, H l = none → Q (.ref l) (upd H l (.lst (es.map (·.2.2))))) := by
  intro pins s σ H vs us Q I rv h
  obtain ⟨v, a, es, rfl, hv, T, q⟩ := h
  obtain ⟨u, rfl, ru⟩ := rv.one
  obtain rfl : u = Value.ref v := ru
  obtain ⟨hd, xs, r, ob, ds, ep, h1, h2, h3, h4, h5, h6⟩ := T.have I.hok
  obtain ⟨hview, _, _⟩ := (show ObjOk X.prog X.w H s.heap v (ViewO a v) from I.hok v _ hv)
  have hview : s.heap.IsValuesView v a := hview
  have hsz : ds.size = xs.length := by
    rw [← Array.length_toList, h4, List.length_map]
  have hz := sz_ok r T.len
  refine W.kdl_call PySem.KdlSrc.rawValues (I.ok.hd hc) ⟨hview, ob, h1, h2, h3⟩ (by omega) fun h' tk acc' c' hk hS hacc => ?_
  have ea : acc'.toList = xs.map (·.2.2) := by
    refine List.ext_getElem? fun j => ?_
    by_cases hj : j < ds.size
    · have hj' : j < acc'.size := by rw [hacc.1]; exact hj
      obtain ⟨hi, e⟩ := hacc.2 j acc'[j] (by rw [Array.getElem?_eq_getElem hj'])
      have e2 : ds.toList[j]? = (xs.map (entryOfKey (nestedKind X.prog X.w)))[j]? := by rw [h4]
      rw [List.getElem?_map, Array.getElem?_toList, Array.getElem?_eq_getElem hj] at e2
      rw [Array.getElem?_toList, Array.getElem?_eq_getElem hj', e, List.getElem?_map]
      cases hx : xs[j]? with
      | none => rw [hx] at e2; cases e2
      | some x =>
        rw [hx] at e2
        rw [Option.some.inj e2]
        rfl
    · rw [List.getElem?_eq_none (by rw [Array.length_toList, hacc.1]; omega), List.getElem?_eq_none (by rw [List.length_map]; omega)]
  refine ⟨.ref s.heap.objs.size, _, I.laid (t' := tk) hk (Nat.le_refl _) (show ObjOk X.prog X.w _ h' _ (.lst (es.map (·.2.2))) from ⟨?_, acc'.toList, c', ?_, ?_⟩), rfl, q _ (I.hok.fresh (Nat.le_refl _))⟩
  · rw [List.length_map, Paired.length r]
    exact hz
  · rw [ea]
    exact r.vals
  · rw [Array.toArray_toList]
    exact hS
end
end XT
/-! own text: an own exception with an __init__ of its own as a value that is kept -/
namespace XE
open PySem PySem.Spec PyProof.Rows L2
/-- the exception at a, of the class at C, its dict at d -/
structure ExAt (H : Hp) (a C d : Addr) (fs : List (Str × V)) : Prop where
  e : H a = some (exo a C (some d))
  d : H d = some (exd d fs)
def tMkE (C : Addr) (sp : Sp) (dvs : List V) (ta : TA) : TE := fun σ H Q => ta σ H fun vs H1 => vs.length ≤ 1000 ∧ ∀ a, H1 a = none → sp (.ref a :: (vs ++ dvs)) (upd H1 a (exo a C none)) (fun v H2 => v = .non ∧ Q (.ref a) H2) (fun _ _ _ => False)
section
variable {X : Cx} {e : Expr} {es : List Expr} {ta : TA} {te : TE} {p pos : Pos}
theorem pe_mkE {CX : CXT} {x : Str} {C fI : Addr} {k : Nat} {fd : FuncData} {ps : List Str} {sp : Sp} {ds : List Value} {dvs : List V} (T : OexC X.K C) (iC : PySem.W.findIn X.K (.ref C) "__init__" = some (some (.ref fI))) (tI : PySem.W.typeIn X.K (.ref fI) = some (.type "function"))
    (F1 : FnOk X.prog X.w X.K X.mg X.base CX k fI fd ps sp) (hr : Room (k + 1) X.A) (hb : Binds X.K fd ps ds) (hd : Vals dvs ds) (hx : Passes CX X (fun _ _ _ => False)) (hg : Gl X x) (hm : X.mg x = some (.ref C)) (ha : PA X (e :: es) ta)
    (hdb : (x == ("__debug__" : Str)) = false := by decide) (he : starEach (e :: es) X.env = (false, eval e X.env) :: starEach es X.env := by rfl) (hpl : (backTo pos (starEach es X.env)).any (·.1) = false := by rfl) :
    PE X (.Call (.Name x p) (e :: es) [] pos) (tMkE C sp dvs ta) := by
  refine ⟨fun pins s σ H Q I h => ?_⟩
  obtain ⟨nm, q, N, bs, bm, sn, sub, ab, col, dd, k0, k1, k2, k3, k5, hC, hbm⟩ := T.cls
  refine wpAny_Call_Name_kw (ld_glob I hg hm ?_ hdb)
  refine PySem.W.callWith_K (h₀ := X.base) I.ok.mod.kin T.kC (thn (ha.run pos pins s σ H _ I h) fun us s1 ⟨vs, H1, I1, r1, hz, q1⟩ => ⟨I1.kIn, ?_⟩) he hpl
  show wpAny _ _ (call (.ref C) us) _ _ _
  obtain ⟨hp, g, dr, tk, os⟩ := s1
  have hsz : hp.objs.size ≤ hp.objs.size + 1 := Nat.le_succ _
  have hn : H1 (hp.objs.size + 1) = none := I1.hok.fresh hsz
  have hq := q1 (hp.objs.size + 1) hn
  have kk : ∀ b o, hp.get? b = some o → ((hp.push (PySem.W.kdv_tup us)).push (PySem.HandSPX.excO C hp.objs.size)).get? b = some o := fun b o e => Heap.get?_push_of_some _ (Heap.get?_push_of_some _ e)
  have hget : ((hp.push (PySem.W.kdv_tup us)).push (PySem.HandSPX.excO C hp.objs.size)).get? (hp.objs.size + 1) = some (PySem.HandSPX.excO C hp.objs.size) := by heap_get
  have I2 : Inv X pins σ (upd H1 (hp.objs.size + 1) (exo (hp.objs.size + 1) C none)) ⟨(hp.push (PySem.W.kdv_tup us)).push (PySem.HandSPX.excO C hp.objs.size), g, dr, tk, os⟩ :=
    I1.laid (t' := tk) (a := hp.objs.size + 1) (o := exo (hp.objs.size + 1) C none) (h' := (hp.push (PySem.W.kdv_tup us)).push (PySem.HandSPX.excO C hp.objs.size)) kk hsz (exo_ok hget)
  have r2 : Vals (V.ref (hp.objs.size + 1) :: (vs ++ dvs)) (Value.ref (hp.objs.size + 1) :: (us ++ ds)) := .cons rfl (r1.append hd)
  have hl : (Value.ref (hp.objs.size + 1) :: us ++ ds).length = ps.length := by
    have e := r2.length
    rw [F1.len _ _ _ _ hq] at e
    exact e.symm
  have hus : us.length ≤ sizeLine := by
    rw [← Paired.length r1, sizeLine_eq]
    omega
  refine wpAny_call (PySem.HandSPX.call_own F.excBase_ValueError (fun Y => PySem.HandSPX.refsVE_contains Y bm hbm) (I1.kIn _ _ hC) (PySem.W.looks_findIn I1.kIn iC) (fun self => PySem.W.bind_fn I1.kIn self tI) hus
    (codeAny_mono (F1.run _ X.stack _ _ ⟨Value.ref (hp.objs.size + 1) :: us, []⟩ (Value.ref (hp.objs.size + 1) :: (us ++ ds)) _ _ (fun _ _ _ => False) (hr.make C us []) (I2.env0.make C us []) (hb _ (Value.ref (hp.objs.size + 1) :: us) I2.kIn hl) r2 hq) fun r s' hq' => ?_))
  cases r with
  | error er => exact hx pins σ _ _ er s' I2 hq'
  | ok fl =>
    cases fl with
    | ret u =>
      obtain ⟨v, H', I3, rv, ev, q3⟩ := I2.after hq'
      subst ev
      exact ⟨rv, ⟨V.ref (hp.objs.size + 1), H', I3, rfl, q3⟩⟩
    | next => exact False.elim hq'
    | brk => exact False.elim hq'
    | cont => exact False.elim hq'
/-- e.n -/
def tXo (C : Addr) (n : Str) (te : TE) : TE := fun σ H Q => te σ H fun x H1 => ∃ a d fs v, x = .ref a ∧ ExAt H1 a C d fs ∧ fs.lookup n = some v ∧ Q v H1
theorem pe_xo {C : Addr} {n : Str} (T : XfC X.K C) (hno : PySem.W.findIn X.K (.ref C) n = some none) (he : PE X e te) (hb : attributeBase e n X.env (eval e X.env) = eval e X.env := by rfl) : PE X (.Attribute e n pos) (tXo C n te) := by
  refine ⟨fun pins s σ H Q I h => ?_⟩
  refine attr_of hb (thn (he.run pins s σ H _ I h) fun u s1 ⟨x, H1, I1, rx, a, d, fs, v, ex, T1, l, q⟩ => ?_)
  subst ex
  obtain rfl : u = Value.ref a := rx
  obtain ⟨t1, hoe⟩ := exo_at I1.hok T1.e
  obtain ⟨mA, hns, hr⟩ := exd_at I1.hok T1.d
  obtain ⟨od, ho, hl⟩ := lookIn_ns hns
  obtain ⟨u, hu, ru⟩ := RelO.some_of (v := v) (o := mA n) (by rw [← l]; exact hr n)
  have J : PySem.W.InstAt s1.heap a _ C (some od) := ⟨hoe, rfl, rfl, ho⟩
  exact HandSPX.exc_get I1.kIn J T.ga T.gg T.exC (PySem.W.findObj_own T.hdC hno rfl (by rw [hl, hu])) (handed_of ru) ⟨v, H1, I1.tok _, ru, q⟩
/-- isinstance(e, c) -/
theorem call_isEO {D : Addr} (C : ExcC X.K D) : CallR X (.builtin "isinstance") (fun xs H Q => ∃ a d fs c cv b, xs = [.ref a, c] ∧ ExAt H a D d fs ∧ (∀ u, RelV c u → u = cv) ∧ PySem.W.kitOne X.K (.ref D) cv = some b ∧ Q (.bl b) H) := by
  intro pins s σ H xs us Q I r h
  obtain ⟨a, d, fs, c, cv, b, rfl, T1, hcv, e, q⟩ := h
  cases r with
  | cons rx rr =>
    cases rr with
    | cons rt rr =>
      cases rr
      cases rx
      have ec := hcv _ rt
      subst ec
      obtain ⟨t1, hoe⟩ := exo_at I.hok T1.e
      obtain ⟨mA, hns, hr⟩ := exd_at I.hok T1.d
      obtain ⟨od, ho, hl⟩ := lookIn_ns hns
      have J : PySem.W.InstAt s.heap a _ D (some od) := ⟨hoe, rfl, rfl, ho⟩
      exact PySem.W.kia_one (PySem.W.xs_kitx C.hg C.hk C.hs C.hd C.ha C.hn C.ht C.hm) I.kIn J e (fun z => nomatch z) fun tk => ⟨.bl b, H, I.kept (t' := tk) fun _ _ z => z, rfl, q⟩
end
end XE
/-! own text: del xs[lo:hi] of a list -/
namespace XD
open PySem PySem.Spec PyProof.Rows L2
open Sem (wp)
theorem keep_out {α : Type} (sel : Nat → Bool) (a c : Nat) (hs : ∀ k, sel k = (decide (a ≤ k) && decide (k < c))) : ∀ (xs : List α) (n : Nat),
    (xs.zipIdx n).filterMap (fun p => if sel p.2 = true then none else some p.1) = xs.take (a - n) ++ xs.drop (max (c - n) (a - n))
  | [], n => by simp
  | x :: xs, n => by
    rw [List.zipIdx_cons, List.filterMap_cons, keep_out sel a c hs xs (n + 1)]
    have hsn := hs n
    by_cases h1 : a ≤ n
    · by_cases h2 : n < c
      · rw [show sel n = true by rw [hsn]; simp [h1, h2]]
        rw [show a - n = 0 by omega, show a - (n + 1) = 0 by omega]
        simp only [if_true, List.take_zero, List.nil_append]
        rw [show max (c - n) 0 = max (c - (n + 1)) 0 + 1 by omega, List.drop_succ_cons]
      · rw [show sel n = false by rw [hsn]; simp [h2]]
        rw [show a - n = 0 by omega, show a - (n + 1) = 0 by omega]
        simp only [List.take_zero, List.nil_append]
        rw [show max (c - n) 0 = 0 by omega, show max (c - (n + 1)) 0 = 0 by omega]
        simp
    · rw [show sel n = false by rw [hsn]; simp [h1]]
      simp only
      rw [show a - n = (a - (n + 1)) + 1 by omega, List.take_succ_cons, show max (c - n) (a - (n + 1) + 1) = max (c - (n + 1)) (a - (n + 1)) + 1 by omega, List.drop_succ_cons]
      rfl
section
variable {prog : Program} {w : World} {A : Around} {E : Value → Shared → Prop} {s : Shared}
set_option maxRecDepth 100000 in
theorem delItem_cut {l sl : Addr} {its : Array Value} {n : Nat} {vl vu : Value} {lo hi : Option Int} {a c : Nat} {Q : Unit → Shared → Prop}
    (e : s.heap.get? l = some { cls := .type "list", data := .seq its n }) (hs : s.heap.IsSliceOf sl vl vu .none) (pl : IsPart vl lo) (pu : IsPart vu hi) (hb : sliceBounds lo hi none its.size = ((a : Int), (c : Int), 1))
    (hz : its.size ≤ sizeLine) (h : ∀ f : Array Value → Array Value, f its = (its.toList.take a ++ its.toList.drop (max c a)).toArray → Q () { s with heap := s.heap.update l (Obj.mapSeq f) }) :
    wpAny (model prog w) A (delItem (.ref l) (.ref sl)) Q E s := by
  have tl : s.TypeIs (.ref l) "list" := ⟨_, e, rfl⟩
  obtain ⟨os, hos, hcs, hds⟩ := id hs
  have ts : s.TypeIs (.ref sl) "slice" := ⟨os, hos, hcs⟩
  have one : ¬ ((rawPart none == rawInt 0) = true) := Bool.false_ne_true
  refine wpAny_delItem_slot tl (by decide) F.slot_list_delitem (wpAny_call_entry F.slot_list_delitem tl F.entry_list_delitem ?_ (F.args_list_delitem_2 _ _))
  show wpAny _ _ (Builtin.List.listSubscript? (.ref sl) >>= _) _ _ s
  refine wpAny_bind ?_
  unfold Builtin.List.listSubscript?
  refine wpAny_bind (wpAny_specialOf ts slice_no_index ?_)
  simp only [Option.isNone_none, if_true]
  refine wpAny_pure ?_
  show wpAny _ _ (typeOf (.ref sl) >>= _) _ _ s
  refine wpAny_bind (wpAny_typeOf ts ?_)
  first
    | rw [if_neg (by decide)]
    | refine PySem.W.KFB.if_not (by decide) ?_
  rw [listSliceParts_eq]
  refine wpAny_bind (wpAny_bind (wpAny_field hos hds (x := .none) rfl (wpAny_bind (wpAny_listPart .none ?_))))
  rw [if_neg one]
  refine wpAny_bind (wpAny_field hos hds (x := vl) rfl (wpAny_bind (wpAny_listPart pl ?_)))
  refine wpAny_bind (wpAny_field hos hds (x := vu) rfl (wpAny_bind (wpAny_listPart pu (wpAny_pure ?_))))
  unfold Builtin.List.listItems
  refine wpAny_bind (wpAny_bind (wpAny_seqItems e rfl (wpAny_pure ?_)))
  refine wpAny_bind (wpAny_of_eq ((sliceIndices_raw lo hi none its.size (by simp)).trans (congrArg (pure : Int × Int × Int → Sem (Int × Int × Int)) hb)) ?_)
  refine wpAny_bind (wpAny_rule ?_)
  unfold Builtin.List.listUpdate
  have cut : ∀ sel : Nat → Bool, (∀ k, sel k = (decide (a ≤ k) && decide (k < c))) → (its.toList.zipIdx.filterMap fun p => if sel p.2 = true then none else some p.1).toArray = (its.toList.take a ++ its.toList.drop (max c a)).toArray := fun sel hsel => by
    rw [keep_out sel a c hsel its.toList 0]
    rfl
  have hsel : ∀ k : Nat, (if (1 : Int) > 0 then (decide ((a : Int) ≤ k) && decide ((k : Int) < c) && ((k : Int) - a) % 1 == 0) else (decide ((c : Int) < k) && decide ((k : Int) ≤ a) && ((a : Int) - k) % (-1) == 0)) = (decide (a ≤ k) && decide (k < c)) := fun k => by
    rw [if_pos (by decide)]
    simp
  have hcut := cut (fun k => if (1 : Int) > 0 then (decide ((a : Int) ≤ k) && decide ((k : Int) < c) && ((k : Int) - a) % 1 == 0) else (decide ((c : Int) < k) && decide ((k : Int) ≤ a) && ((a : Int) - k) % (-1) == 0)) hsel
  refine wpAny_bind (wpAny_updateSeq (hz := hz) (_hz' := ?z) e rfl (wpAny_bind (wpAny_letGo ?_)))
  · exact wpAny_pure ⟨.none, rfl, h _ hcut⟩
  case z =>
    refine Nat.le_trans (Nat.le_of_eq (congrArg Array.size hcut)) ?_
    rw [List.size_toArray, List.length_append, List.length_take, List.length_drop, Array.length_toList]
    omega
end
variable {X : Cx} {o : Expr} {to : TE} {lo hi : Option Expr} {tl th : TO} {tpos p2 pos : Pos}
theorem ps_delS (ho : PE X o to) (hl : PO X lo tl) (hu : PO X hi th) : PS X (.Delete [.Subscript o (.Slice lo hi none p2) tpos] pos)
    (fun D σ H => to σ H fun x H1 => tl σ H1 fun i H2 => th σ H2 fun j H3 => ∃ (l : Addr) (xs : List V) (a c : Nat), x = .ref l ∧ H3 l = some (.lst xs) ∧ sliceBounds i j none xs.length = ((a : Int), (c : Int), 1) ∧ D.nx σ (upd H3 l (.lst (xs.take a ++ xs.drop (max c a))))) := by
  refine ⟨fun pins s σ H D I h => ?_⟩
  refine wpAny_Delete (wpAny_deleteEach_cons (wpAny_delete_Subscript (thn (ho.run pins s σ H _ I h) fun v s1 ⟨x, H1, I1, rx, q1⟩ => ?_)))
  refine wpAny_Slice (thn (hl.run pins s1 σ H1 _ I1 q1) fun vl s2 ⟨i, H2, I2, pl, q2⟩ => thn (hu.run pins s2 σ H2 _ I2 q2) fun vu s3 ⟨j, H3, I3, pu, l, xs, a, c, ex, hH, hb, q⟩ => ?_)
  rw [evalPart_none]
  refine wpAny_pure ?_
  subst ex
  cases (show v = Value.ref l from rx)
  have I4 : Inv X pins σ H3 { s3 with heap := s3.heap.push { cls := .type "slice", data := .fields #[vl, vu, .none] } } := I3.kept (t' := s3.toks) fun b ob q => Heap.get?_push_of_some _ q
  obtain ⟨z, its, n, r, hlen, e⟩ := I4.lstM hH
  have hz : its.toArray.size ≤ sizeLine := by rw [List.size_toArray]; omega
  refine delItem_cut e (Heap.IsSliceOf.new ..) pl pu (a := a) (c := c) (by rw [List.size_toArray, ← hlen]; exact hb) hz fun f hf => ?_
  refine wpAny_deleteEach_nil ⟨σ, _, ?_, q⟩
  refine I4.lset (its' := its.take a ++ its.drop (max c a)) (t' := s3.toks) hH e hf (Vals.append (r.take _) (r.drop _)) ?_
  rw [List.length_append, List.length_take, List.length_drop]
  omega
end XD
/-! own text: list(x) of a text -/
namespace XL
open PySem PySem.Spec PyProof.Rows L2 PySem.W
open Sem (wp)
section
variable {prog : Program} {w : World} {A : Around} {E : Value → Shared → Prop} {s : Shared} {x : Str} {t : Tok}
theorem hint_text {Q : Bool → Shared → Prop} (h : Q false s) : wpAny (model prog w) A (Builtin.List.listLengthHint (.str x t)) Q E s := by
  have hT : s.TypeIs (.str x t) "str" := typeIs_str s x t
  unfold Builtin.List.listLengthHint
  refine wpAny_bind (wpAny_specialOf hT PySem.F.slot_str_len.lookup ?_)
  generalize hid : ("str.__len__" : String) = id1
  wp_delta
  rw [show splitId id1 = some ("str", "__len__") from by subst hid; decide +kernel]
  subst hid
  refine wpAny_bind (wpAny_isInstance (T := "str") (b := true) hT (by rw [isSubtype_type]; kernel_rfl) ?_)
  refine wpAny_ite_split (fun hab => absurd hab (by decide)) (fun _ => ?_)
  refine wpAny_ite_split (fun _ => ?_) (fun hab => absurd (by decide +kernel) hab)
  exact wpAny_bind (wpAny_typeOf hT (wpAny_pure h))
/-- the iterator that a text gives, whichever -/
theorem iter_text (hh : A.handled = none) : ∃ (oI : Obj) (W : Nat → Heap → Prop), (∀ (E : Value → Shared → Prop) (Q : Value → Shared → Prop), Q (.ref s.heap.objs.size) { s with heap := s.heap.push oI } → wpAny (model prog w) A (pyIter (.str x t)) Q E s) ∧
    Walks prog w A s.heap.objs.size [s.heap.objs.size] [s.heap.objs.size] x.cps.size (SignAt x) W ∧ W 0 (s.heap.push oI) := by
  cases ha : x.cps.all (· < 128)
  · exact ⟨_, _, fun E Q q => wpAny_pyIter_wide ha q, Walks.strWide hh _ x t, ⟨_, Heap.get?_push_size _ rfl, rfl, rfl⟩⟩
  · exact ⟨_, _, fun E Q q => wpAny_pyIter_ascii ha q, Walks.strAscii hh _ x t, ⟨_, Heap.get?_push_size _ rfl, rfl, rfl⟩⟩
theorem fill_text {R : Result → Shared → Prop} (hh : A.handled = none) (L : Addr) (res : Value) (c0 : Nat) (hL : s.heap.get? L = some { cls := .type "list", data := .seq #[] c0 }) (hn : x.cps.size ≤ sizeLine)
    (hR : ∀ h' tk acc c, (∀ b o, b ≠ L → s.heap.get? b = some o → h'.get? b = some o) → h'.get? L = some { cls := .type "list", dict := none, data := .seq acc c, slots := #[] } → ItemsOf (SignAt x) acc x.cps.size → R (.ok (.ret res)) { s with heap := h', toks := tk }) :
    wpAny (model prog w) A.in1 (Builtin.List.listExtendWith (.ref L) (.str x t) res)
      (fun fin s' => match fin with | .done f => R (.ok f) s' | .again c' => c'.quiet = true ∧ codeAny (model prog w) A c' R s') (fun e s' => R (.error e) s') s := by
  have hLI : L ≠ s.heap.objs.size := Nat.ne_of_lt (Heap.lt_size hL)
  have hLf : L ∉ [s.heap.objs.size] := by simpa using hLI
  obtain ⟨oI, St, hit, W, st⟩ := iter_text (prog := prog) (w := w) (A := A.in1) (s := s) (x := x) (t := t) hh
  have go : ∀ (h : Heap) (c1 tk : Nat), St 0 h → (∀ b o, b ≠ L → s.heap.get? b = some o → h.get? b = some o) → h.get? L = some { cls := .type "list", data := .seq #[] c1 } →
      codeAny (model prog w) A (.builtin "list.extend.loop" ⟨[.ref L, .ref s.heap.objs.size, res], []⟩) R { s with heap := h, toks := tk } := fun h c1 tk hst hk hL1 => by
    refine codeAny_extend_loopS W.toS hn L hLf res x.cps.size 0 _ #[] c1 rfl (Nat.zero_le _) hst hL1 (ItemsOf.nil _) fun s2 acc c hm hL2 hacc => ?_
    rw [Moved.eq_with hm]
    refine hR s2.heap s2.toks acc c (fun b o hb e => hm.heap b o (fun z => ?_) (hk b o hb e)) hL2 hacc
    rcases List.mem_cons.mp z with z | z
    · exact hb z
    · exact absurd (Heap.lt_size e) (by rw [List.mem_singleton.mp z]; exact Nat.lt_irrefl _)
  have hT : s.TypeIs (.str x t) "str" := typeIs_str s x t
  unfold Builtin.List.listExtendWith
  refine wpAny_bind (wpAny_typeOf (T := "str") hT ?_)
  have k1 : Builtin.List.listSameRef (.ref L) (.str x t) = false := rfl
  have k2 : (Value.type "str" == Value.type "list") = false := by decide
  have k3 : (Value.type "str" == Value.type "tuple") = false := by decide
  simp only [k1, k2, k3, Bool.or_false, Bool.false_eq_true, if_false]
  refine wpAny_bind (hit _ _ ?_)
  have g1 := Heap.get?_push_of_some oI hL
  refine wpAny_bind (wpAny_holding (hint_text ?_))
  refine wpAny_ite_split (fun _ => ?_) (fun _ => wpAny_pure ⟨plainId_quiet PySem.F.plain_extend_loop _, go _ c0 _ st (fun b o _ e => Heap.get?_push_of_some _ e) g1⟩)
  refine wpAny_bind (wpAny_rule (wpAny_bind ?_))
  show wpAny _ _ (updateSeq L (·.push .none) >>= fun _ => updateSeq L (·.pop)) _ _ _
  refine wpAny_bind (wpAny_updateSeq g1 rfl ?_)
  have g2 := Heap.get?_update_self (Obj.mapSeq (·.push Value.none)) g1 rfl
  refine wpAny_updateSeq (hz := by seq_fits) g2 rfl ?_
  have g3 := Heap.get?_update_self (Obj.mapSeq (·.pop)) g2 rfl
  refine wpAny_pure ⟨plainId_quiet PySem.F.plain_extend_loop _, go _ _ _ (W.frame 0 _ _ st fun b hb o e => ?_) (fun b o hb e => ?_) g3⟩
  · have hbL : L ≠ b := fun z => hLf (z ▸ hb)
    exact (Heap.get?_update_other _ _ hbL).trans ((Heap.get?_update_other _ _ hbL).trans e)
  · exact (Heap.get?_update_other _ _ (Ne.symm hb)).trans ((Heap.get?_update_other _ _ (Ne.symm hb)).trans (Heap.get?_push_of_some _ e))
theorem call_text {Q : Value → Shared → Prop} (hh : A.handled = none) (hn : x.cps.size ≤ sizeLine)
    (hQ : ∀ h' tk acc c, (∀ b o, s.heap.get? b = some o → h'.get? b = some o) → h'.get? s.heap.objs.size = some { cls := .type "list", dict := none, data := .seq acc c, slots := #[] } → ItemsOf (SignAt x) acc x.cps.size → Q (.ref s.heap.objs.size) { s with heap := h', toks := tk }) :
    wpAny (model prog w) A (call (.type "list") [.str x t]) Q E s := by
  refine callType_codes (Q₁ := fun ob s1 => ob = .ref s.heap.objs.size ∧ s1 = { s with heap := s.heap.push { cls := .type "list", data := .seq #[] } }) PySem.F.called_list (PySem.F.typeCall_list_1 _) PySem.F.entry_list_init
    (code_list_new _ ⟨rfl, rfl⟩) fun ob s1 h1 => ?_
  obtain ⟨rfl, rfl⟩ := h1
  have hL : (s.heap.push { cls := .type "list", data := .seq #[] }).get? s.heap.objs.size = some { cls := .type "list", data := .seq #[] } := Heap.get?_push_size _ rfl
  refine ⟨⟨_, hL, rfl⟩, PySem.F.args_list_init_2 _ _, ?_⟩
  show wpAny _ _ (do let old ← Builtin.List.listItems (.ref s.heap.objs.size); Builtin.List.listUpdate (.ref s.heap.objs.size) (fun _ => #[]); letGo old.toList.reverse; Builtin.List.listExtendWith (.ref s.heap.objs.size) (.str x t) .none) _ _ _
  refine wpAny_bind ?_
  unfold Builtin.List.listItems
  refine wpAny_bind (wpAny_seqItems hL rfl (wpAny_pure ?_))
  show wpAny _ _ (updateSeq s.heap.objs.size (fun _ => #[]) >>= fun _ => letGo (#[] : Array Value).toList.reverse >>= fun _ => Builtin.List.listExtendWith (.ref s.heap.objs.size) (.str x t) .none) _ _ _
  refine wpAny_bind (wpAny_updateSeq hL rfl ?_)
  have g2 := Heap.get?_update_self (Obj.mapSeq (fun _ => (#[] : Array Value))) hL rfl
  refine wpAny_bind (wpAny_letGo ?_)
  refine fill_text (A := A.in1) hh s.heap.objs.size .none _ g2 hn fun h' tk acc c hk hL2 hacc => ⟨rfl, hQ h' tk acc c (fun b o e => ?_) hL2 hacc⟩
  have hb : b ≠ s.heap.objs.size := Nat.ne_of_lt (Heap.lt_size e)
  exact hk b o hb ((Heap.get?_update_other _ _ (Ne.symm hb)).trans (Heap.get?_push_of_some _ e))
end
/-- the signs of a text, as texts -/
def signs (x : Str) : List Str := x.cps.toList.map fun c => ⟨#[c]⟩
theorem call_list_text {X : Cx} (hc : X.calm = true) : CallR X (.type "list") (fun xs H Q => ∃ x, xs = [.str x] ∧ x.length ≤ sizeLine ∧ ∀ l, H l = none → Q (.ref l) (upd H l (.lst ((signs x).map V.str)))) := by
  intro pins s σ H xs us Q I r h
  obtain ⟨x, rfl, hz, q⟩ := h
  obtain ⟨u, rfl, t, rfl⟩ := vals1 r
  have hz' : x.cps.size ≤ sizeLine := hz
  refine call_text (I.ok.hd hc) hz' fun h' tk acc c hk hL hacc => ?_
  refine ⟨.ref s.heap.objs.size, _, I.laid hk (Nat.le_refl _) (show ObjOk X.prog X.w _ h' _ (.lst ((signs x).map V.str)) from ⟨?_, acc.toList, c, ?_, ?_⟩), rfl, q _ (I.hok.fresh (Nat.le_refl _))⟩
  · rw [List.length_map]; unfold signs; rw [List.length_map, Array.length_toList]; exact hz'
  · refine vals_of_at (by rw [List.length_map]; unfold signs; rw [List.length_map, Array.length_toList, Array.length_toList, hacc.1]) fun j v u h1 h2 => ?_
    obtain ⟨cc, tt, e1, e2⟩ := hacc.2 j u (by rw [← Array.getElem?_toList]; exact h2)
    rw [List.getElem?_map] at h1
    unfold signs at h1
    rw [List.getElem?_map, Array.getElem?_toList, e1] at h1
    cases h1
    exact ⟨tt, e2⟩
  · simpa using hL
end XL
/-! own text: a call of a local name that holds one of several defs, with starred arguments or not, which may raise -/
namespace XS
open PySem PySem.Spec PyProof.Rows L2
/-- what the slot may hold: a def with its promise; what it raises is told at the slots -/
structure HeldX (P : Program) (w : World) (K : PySem.W.Frag) (mg : Str → Option Value) (base : Heap) (k : Nat) (f : Addr) (sp : Sp) : Prop where
  ex : ∃ (fd : FuncData) (ps : List Str), FnOk P w K mg base (L2.CX P w) k f fd ps sp ∧ PySem.W.keepIn K (.ref f) = true ∧ Binds K fd ps []
def tCallX (i : Nat) (S : Addr → Option Sp) (E : L2.St → XK) (t : TA) : TE := fun σ H Q => ∃ f sp, σ[i]? = some (some (.ref f)) ∧ S f = some sp ∧ t σ H fun vs H1 => sp vs H1 Q (E σ)
section
variable {X : Cx} {k i : Nat} {S : Addr → Option Sp} {E : L2.St → XK} {x : Str} {p pos : Pos} {e : Expr} {es : List Expr} {t : TA}
theorem pe_callX (A : ∀ f sp, S f = some sp → HeldX X.prog X.w X.K X.mg X.base k f sp) (hr : Room k X.A) (hN : X.N[i]? = some x) (hv : Vis X.env.scope x) (hx : ∀ σ, PassesAt (L2.CX X.prog X.w) X σ (E σ)) (ha : PA X (e :: es) t)
    (hdb : (x == ("__debug__" : Str)) = false := by decide) (hcd : (x == ("__classdict__" : Str)) = false := by decide)
    (he : starEach (e :: es) X.env = (false, eval e X.env) :: starEach es X.env := by rfl) (hpl : (backTo pos (starEach es X.env)).any (·.1) = false := by rfl) : PE X (.Call (.Name x p) (e :: es) [] pos) (tCallX i S E t) := by
  refine ⟨fun pins s σ H Q I h => ?_⟩
  obtain ⟨f, sp, hs, hS, ht⟩ := h
  obtain ⟨fd, ps, F, hk, hb⟩ := (A f sp hS).ex
  refine wpAny_Call_Name_kw (thn ((pe_var (pos := p) hN hv hdb hcd).run pins s σ H (fun v H1 => v = .ref f ∧ H1 = H) I ⟨.ref f, hs, rfl, rfl⟩) fun u s1 ⟨v, H1, I1, r1, q1⟩ => ?_)
  obtain ⟨rfl, rfl⟩ := q1
  cases r1
  refine PySem.W.callWith_K (h₀ := X.base) I.ok.mod.kin hk (thn (ha.run pos pins s1 σ _ _ I1 ht) fun us s2 ⟨vs, H2, I2, r, q⟩ => ⟨I2.kIn, ?_⟩) he hpl
  exact run_fnS F hr hb (hx σ) I2 r q
/-- x(e, .., *y) -/
theorem pe_callXS (A : ∀ f sp, S f = some sp → HeldX X.prog X.w X.K X.mg X.base k f sp) (hr : Room k X.A) (hN : X.N[i]? = some x) (hv : Vis X.env.scope x) (hx : ∀ σ, PassesAt (L2.CX X.prog X.w) X σ (E σ)) (ha : PA X (e :: es) t)
    (hdb : (x == ("__debug__" : Str)) = false := by decide) (hcd : (x == ("__classdict__" : Str)) = false := by decide)
    (he : starEach (e :: es) X.env = (false, eval e X.env) :: starEach es X.env := by rfl) (hst : (backTo pos (starEach es X.env)).any (·.1) = true := by rfl) : PE X (.Call (.Name x p) (e :: es) [] pos) (tCallX i S E t) := by
  refine ⟨fun pins s σ H Q I h => ?_⟩
  obtain ⟨f, sp, hs, hS, ht⟩ := h
  obtain ⟨fd, ps, F, hk, hb⟩ := (A f sp hS).ex
  refine wpAny_Call_Name_kw (thn ((pe_var (pos := p) hN hv hdb hcd).run pins s σ H (fun v H1 => v = .ref f ∧ H1 = H) I ⟨.ref f, hs, rfl, rfl⟩) fun u s1 ⟨v, H1, I1, r1, q1⟩ => ?_)
  obtain ⟨rfl, rfl⟩ := q1
  cases r1
  refine PySem.W.callWith_S2 (h₀ := X.base) I.ok.mod.kin hk (thn (ha.run pos pins s1 σ _ _ I1 ht) fun us s2 ⟨vs, H2, I2, r, q⟩ => ⟨I2.kIn, ?_⟩) he hst
  exact run_fnS F hr hb (hx σ) I2 r q
end
end XS
/-! own text: zip of a list and a tuple -/
namespace XZ
open PySem PySem.Spec PyProof.Rows L2
open PySem.Sem (wp)
abbrev mH1 (h : Heap) (l1 : Addr) : Heap := h.push { cls := .type "list_iterator", data := .fields #[.ref l1, .int 0 0] }
abbrev mH2 (h : Heap) (l1 l2 : Addr) : Heap := (mH1 h l1).push { cls := .type "tuple_iterator", data := .fields #[.ref l2, .int 0 0] }
abbrev mH3 (h : Heap) (l1 l2 : Addr) : Heap := (mH2 h l1 l2).push { cls := .type "tuple", data := .seq #[.ref h.objs.size, .ref (mH1 h l1).objs.size] }
abbrev mH4 (h : Heap) (l1 l2 : Addr) : Heap := (mH3 h l1 l2).push { cls := .type "tuple", data := .seq #[.none, .none] }
abbrev mH5 (h : Heap) (l1 l2 : Addr) : Heap := (mH4 h l1 l2).push { cls := .type "zip", data := .fields #[.none, .bool false, .bool false, .ref (mH2 h l1 l2).objs.size, .ref (mH3 h l1 l2).objs.size] }
theorem meets_new (l1 l2 : Addr) (xs ys : Array Value) :
    Meets (Builtin.«zip.__new__» ⟨[.type "zip", .ref l1, .ref l2], []⟩) (fun _ R s => s.heap.IsList l1 xs ∧ s.heap.IsTuple l2 ys ∧
      R (.ok (.ret (.ref (mH4 s.heap l1 l2).objs.size))) { s with heap := mH5 s.heap l1 l2 }) :=
  .of_wp fun prog w A R s h => by
    obtain ⟨hp, g, d, tk, os⟩ := s; obtain ⟨hl1, hl2, h⟩ := h
    have hsub := sub_zip
    have hL1 : Heap.IsList (Shared.heap ⟨hp, g, d, tk, os⟩) l1 xs := hl1
    have hL2 : Heap.IsTuple (Shared.heap ⟨hp.push { cls := .type "list_iterator", data := .fields #[.ref l1, .int 0 0] }, g, d, tk, os⟩) l2 ys := Heap.IsTuple.push hl2 _
    wp_walk using wpAny_pyIter_list hL1, wpAny_pyIter_tuple hL2
    exact ⟨_, rfl, h⟩
section
variable {prog : Program} {w : World} {A : Around} {E : Value → Shared → Prop} {s : Shared}
theorem call_zipM {l1 l2 : Addr} {xs ys : Array Value} {Q : Value → Shared → Prop} (hl1 : s.heap.IsList l1 xs) (hl2 : s.heap.IsTuple l2 ys)
    (h : ∀ h', IsZip h' (s.heap.objs.size + 4) (s.heap.objs.size + 2) (s.heap.objs.size + 3) .none → IsPair h' (s.heap.objs.size + 2) (.ref s.heap.objs.size) (.ref (s.heap.objs.size + 1)) →
      IsPair h' (s.heap.objs.size + 3) .none .none → h'.IsListIter s.heap.objs.size l1 0 → h'.IsTupleIter (s.heap.objs.size + 1) l2 0 → h'.objs.size = s.heap.objs.size + 5 →
      (∀ c o, s.heap.get? c = some o → h'.get? c = some o) → Q (.ref (s.heap.objs.size + 4)) { s with heap := h' }) :
    wpAny (model prog w) A (call (.type "zip") [.ref l1, .ref l2]) Q E s := by
  refine callType_new F.called_zip (by decide) (F.typeCall_zip_2 _ _) (F.newCall_zip_2 _ _) (fun obj => F.args_object_init_3 obj _ _) F.entry_zip_new
    (meets_new l1 l2 xs ys) ⟨hl1, hl2, ?_⟩
  have z1 : (mH1 s.heap l1).objs.size = s.heap.objs.size + 1 := Heap.size_push ..
  have z2 : (mH2 s.heap l1 l2).objs.size = s.heap.objs.size + 2 := by rw [Heap.size_push, z1]
  have z3 : (mH3 s.heap l1 l2).objs.size = s.heap.objs.size + 3 := by rw [Heap.size_push, z2]
  have z4 : (mH4 s.heap l1 l2).objs.size = s.heap.objs.size + 4 := by rw [Heap.size_push, z3]
  have z5 : (mH5 s.heap l1 l2).objs.size = s.heap.objs.size + 5 := by rw [Heap.size_push, z4]
  have g5 : (mH5 s.heap l1 l2).get? (mH4 s.heap l1 l2).objs.size = some _ := Heap.get?_push_size _ rfl
  have g4 : (mH5 s.heap l1 l2).get? (mH3 s.heap l1 l2).objs.size = some _ := Heap.get?_push_of_some _ (Heap.get?_push_size _ rfl)
  have g3 : (mH5 s.heap l1 l2).get? (mH2 s.heap l1 l2).objs.size = some _ := Heap.get?_push_of_some _ (Heap.get?_push_of_some _ (Heap.get?_push_size _ rfl))
  have g2 : (mH5 s.heap l1 l2).get? (mH1 s.heap l1).objs.size = some _ := Heap.get?_push_of_some _ (Heap.get?_push_of_some _ (Heap.get?_push_of_some _ (Heap.get?_push_size _ rfl)))
  have g1 : (mH5 s.heap l1 l2).get? s.heap.objs.size = some _ := Heap.get?_push_of_some _ (Heap.get?_push_of_some _ (Heap.get?_push_of_some _ (Heap.get?_push_of_some _ (Heap.get?_push_size _ rfl))))
  show _ ∧ _
  rw [z2, z3, z4] at g5
  rw [z1, z2] at g3
  rw [z3] at g4
  rw [z1] at g2
  rw [z4]
  exact ⟨⟨_, g5, rfl⟩, h _ g5 g3 g4 ⟨_, g1, rfl, rfl⟩ ⟨_, g2, rfl, rfl⟩ z5 fun c o x =>
    Heap.get?_push_of_some _ (Heap.get?_push_of_some _ (Heap.get?_push_of_some _ (Heap.get?_push_of_some _ (Heap.get?_push_of_some _ x))))⟩
end
/-- the list at a and the tuple at b, the items in new pairs -/
def ItzM (K : PySem.W.Frag) (a b : Addr) : It :=
  ⟨fun i H => ∃ (xs ys : List V) (x y : V), SqL K H a xs ∧ SqT K H b ys ∧ xs[i]? = some x ∧ ys[i]? = some y,
    fun i H v H' => ∃ T x y, v = .ref T ∧ H T = none ∧ H' = upd H T (.tup [x, y]) ∧ (∀ xs, SqL K H a xs → xs[i]? = some x) ∧ ∀ ys, SqT K H b ys → ys[i]? = some y,
    fun i H => ∃ xs ys : List V, SqL K H a xs ∧ SqT K H b ys ∧ xs.length = i ∧ ys.length = i⟩
theorem sep2 {a b z TI TO i1 i2 : Addr} (D : ZipApart z TI TO i1 i2 a b) : ZipSep2 z TI TO i1 i2 [i1, a] [i2, b] where
  TIz := D.TIz
  TOz := D.TOz
  TITO := D.TITO
  TIi1 := D.TIi1
  mem1 := by simp
  zf1 := by simp [D.i1z.symm, D.l1z.symm]
  Tf1 := by simp [D.TOi1, D.l1TO.symm]
  TIi2 := D.TIi2
  mem2 := by simp
  zf2 := by simp [D.i2z.symm, D.l2z.symm]
  Tf2 := by simp [D.TOi2, D.l2TO.symm]
  sep1_2 := by simp [D.i12, D.l2i1.symm]
  sep2_1 := by simp [D.i12.symm, D.l1i2.symm]
theorem turn_zipM {P : Program} {w : World} {K : PySem.W.Frag} {elts : List Expr} {kk : Nat} {tpos : Pos} {a b z TI TO i1 i2 : Addr} (D : ZipApart z TI TO i1 i2 a b) :
    Turn P w K (.Tuple elts kk tpos) (ItzM K a b) [z, TI, TO, i1, i2] z (fun i h => IsZip h z TI TO .none ∧ IsPair h TI (.ref i1) (.ref i2) ∧ (∃ x y, IsPair h TO x y) ∧ h.IsListIter i1 a i ∧ h.IsTupleIter i2 b i) where
  mem := by simp
  obj := fun i h st c hc => by
    obtain ⟨hz, hTI, ⟨x, y, hTO⟩, ⟨o1, e1, _, d1⟩, ⟨o2, e2, _, d2⟩⟩ := st
    have e' : c = z ∨ c = TI ∨ c = TO ∨ c = i1 ∨ c = i2 := by simpa using hc
    rcases e' with q | q | q | q | q
    · rw [q]; exact ⟨_, hz, fun v q => nomatch q⟩
    · rw [q]; exact ⟨_, hTI, fun v q => nomatch q⟩
    · rw [q]; exact ⟨_, hTO, fun v q => nomatch q⟩
    · rw [q]; exact ⟨o1, e1, fun v q => by rw [d1] at q; cases q⟩
    · rw [q]; exact ⟨o2, e2, fun v q => by rw [d2] at q; cases q⟩
  keep := fun i h h' st k => by
    obtain ⟨hz, hTI, ⟨x, y, hTO⟩, h1, h2⟩ := st
    exact ⟨k z (by simp) _ hz, k TI (by simp) _ hTI, ⟨x, y, k TO (by simp) _ hTO⟩, h1.at fun o q => k i1 (by simp) o q, h2.at fun o q => k i2 (by simp) o q⟩
  item := by
    intro X hP hw hK hc i pins s σ H E I hf st hg
    subst hP hw hK
    obtain ⟨hz, hTI, ⟨x0, y0, hTO⟩, h1, h2⟩ := st
    obtain ⟨xs, ys, x, y, hqx, hqy, hx, hy⟩ := hg
    obtain ⟨its, rv, p, _⟩ := I.list hqx
    obtain ⟨its2, rv2, p2, _⟩ := I.tuple hqy
    obtain ⟨u, hu, ru⟩ := rv.get hx
    obtain ⟨u2, hu2, ru2⟩ := rv2.get hy
    have hzl : z < s.heap.objs.size := Heap.lt_size hz
    have lt1 : i < its.toArray.size := by
      have := (List.getElem?_eq_some_iff.mp hu).1
      simpa using this
    have lt2 : i < its2.toArray.size := by
      have := (List.getElem?_eq_some_iff.mp hu2).1
      simpa using this
    refine PySem.wpAny_pyNext_zipD2_item (sep2 D) (Draws.list (A := X.A.in1) (I.ok.hd hc) i1 a D.l1i1 its.toArray) (Draws.tuple (A := X.A.in1) (I.ok.hd hc) i2 b D.l2i2 its2.toArray) hz hTI hTO ⟨h1, p.isList⟩ ⟨h2, p2⟩ lt1 lt2 fun x1 x2 h' tk e1 e2 z' TO' st1 st2 hT hsz hk => ?_
    have ex1 : x1 = u := by
      have h3 : its[i]? = some x1 := by simpa using e1
      rw [hu] at h3
      exact (Option.some.inj h3).symm
    have ex2 : x2 = u2 := by
      have h3 : its2[i]? = some x2 := by simpa using e2
      rw [hu2] at h3
      exact (Option.some.inj h3).symm
    subst ex1 ex2
    refine ⟨_, rfl, wpAny_letOwnedTupleGo_zip (s := { s with heap := h', toks := tk }) z' fun h'' z'' sb => ?_⟩
    have hT2 : h''.get? s.heap.objs.size = some { cls := .type "tuple", data := .seq #[x1, x2] } := (sb.2 _ (Nat.ne_of_gt hzl)).trans hT
    have new : ObjOk X.prog X.w (upd H s.heap.objs.size (.tup [x, y])) h'' s.heap.objs.size (.tup [x, y]) :=
      ⟨by show 2 ≤ sizeLine; decide, [x1, x2], .cons ru (.cons ru2 .nil), ⟨_, hT2, rfl, _, rfl⟩⟩
    have I1 : Inv X pins σ (upd H s.heap.objs.size (.tup [x, y])) { s with heap := h'', toks := tk } :=
      I.turnedNew (t' := tk) (ch := [z, TI, TO, i1, i2]) (fun c o hb q => (sb.2 c (fun q' => hb (by simp [q']))).trans (hk c o (fun q' => hb (by simp [q'])) (fun q' => hb (by simp [q'])) (fun q' => hb (by simp [q'])) (fun q' => hb (by simp [q'])) q)) hf (Nat.le_refl _) new
    refine ⟨.ref s.heap.objs.size, _, I1, rfl, ⟨_, x, y, rfl, I.hok.fresh (Nat.le_refl _), rfl, fun l hl => by rw [I.list_inj hl hqx]; exact hx, fun l hl => by rw [I.tuple_inj hl hqy]; exact hy⟩, ⟨z'', ?_, ⟨x1, x2, ?_⟩, ?_, ?_⟩, fun c hcm => ?_⟩
    · exact (sb.2 _ D.TIz).trans (hk _ _ D.TIz D.TITO D.TIi1 D.TIi2 hTI)
    · exact (sb.2 _ D.TOz).trans TO'
    · exact st1.1.at fun o q => (sb.2 _ D.i1z).trans q
    · exact st2.1.at fun o q => (sb.2 _ D.i2z).trans q
    · have hlt : c < s.heap.objs.size := by
        have e' : c = z ∨ c = TI ∨ c = TO ∨ c = i1 ∨ c = i2 := by simpa using hcm
        rcases e' with q | q | q | q | q
        · rw [q]; exact hzl
        · rw [q]; exact Heap.lt_size hTI
        · rw [q]; exact Heap.lt_size hTO
        · rw [q]; obtain ⟨_, e1, _⟩ := h1; exact Heap.lt_size e1
        · rw [q]; obtain ⟨_, e2, _⟩ := h2; exact Heap.lt_size e2
      rw [upd_ne (Nat.ne_of_lt hlt)]
      exact (hf c hcm).1
  done := by
    intro X hP hw hK hc i pins s σ H E I hf st hg
    subst hP hw hK
    obtain ⟨hz, hTI, ⟨x0, y0, hTO⟩, h1, h2⟩ := st
    obtain ⟨xs, ys, hqx, hqy, l1, l2⟩ := hg
    obtain ⟨its, rv, p, _⟩ := I.list hqx
    obtain ⟨its2, rv2, p2, _⟩ := I.tuple hqy
    have m1 := rv.length
    have m2 := rv2.length
    have n1 : its.toArray.size = i := by simp; omega
    have n2 : its2.toArray.size = i := by simp; omega
    exact PySem.wpAny_pyNext_zipD2_end (sep2 D) (Draws.list (A := X.A.in1) (I.ok.hd hc) i1 a D.l1i1 its.toArray) (Draws.tuple (A := X.A.in1) (I.ok.hd hc) i2 b D.l2i2 its2.toArray) hz hTI hTO ⟨h1, p.isList⟩ ⟨h2, p2⟩ (Nat.le_of_eq n1.symm) (Nat.le_of_eq n2.symm) (.inl n1.symm) fun h' tk hk => ⟨rfl, I.turnedL (t' := tk) (ch := [z, TI, TO, i1, i2]) (fun c o hb q =>
      hk c o (fun q' => hb (by simp [q'])) (fun q' => hb (by simp [q'])) (fun q' => hb (by simp [q'])) (fun q' => hb (by simp [q'])) q) hf⟩
  self := fun A i s Q E st h => wpAny_pyIter_zip st.1 h
def iZipM (K : PySem.W.Frag) (ta : TA) : TI := fun σ H R => ta σ H fun vs H1 => ∃ a b xs ys, vs = [.ref a, .ref b] ∧ SqL K H1 a xs ∧ SqT K H1 b ys ∧ R (ItzM K a b) H1
theorem pi_zipM {X : Cx} {e e2 : Expr} {ta : TA} {p pos tpos : Pos} {elts : List Expr} {kk : Nat} (hg : Gl X "zip") (hm : X.mg "zip" = none) (ha : PA X [e, e2] ta)
    (hs : starEach [e, e2] X.env = (false, eval e X.env) :: starEach [e2] X.env := by rfl) (hpl : (backTo pos (starEach [e2] X.env)).any (·.1) = false := by rfl) :
    PI X (.Tuple elts kk tpos) (.Call (.Name "zip" p) [e, e2] [] pos) (iZipM X.K ta) := by
  refine ⟨fun pins s σ H R I h => ?_⟩
  refine Call_ (ld_blt I hg hm PyProof.Rows.boot_zip (PyProof.Rows.callWith_type1 (thn (ha.run pos pins s σ H _ I h) fun us s1 ⟨vs, H1, I1, r1, q1⟩ => ?_) hs hpl))
  obtain ⟨a, b, xs, ys, ex, hqx, hqy, q⟩ := q1
  subst ex
  cases r1 with
  | cons r rr =>
    cases rr with
    | cons r' rr =>
      cases rr
      cases r
      cases r'
      have fresh5 : ∀ c, c ∈ [s1.heap.objs.size + 4, s1.heap.objs.size + 2, s1.heap.objs.size + 3, s1.heap.objs.size, s1.heap.objs.size + 1] → FpOk X pins H1 c := fun c hcm => by
        have e' : c = s1.heap.objs.size + 4 ∨ c = s1.heap.objs.size + 2 ∨ c = s1.heap.objs.size + 3 ∨ c = s1.heap.objs.size ∨ c = s1.heap.objs.size + 1 := by simpa using hcm
        have hle : s1.heap.objs.size ≤ c := by
          rcases e' with z | z | z | z | z
          · rw [z]; exact Nat.le_add_right _ _
          · rw [z]; exact Nat.le_add_right _ _
          · rw [z]; exact Nat.le_add_right _ _
          · rw [z]; exact Nat.le_refl _
          · rw [z]; exact Nat.le_add_right _ _
        exact I1.fpOk hle (I1.hok.fresh hle)
      obtain ⟨its, rv, p1, _⟩ := I1.list hqx
      obtain ⟨its2, rv2, p2, _⟩ := I1.tuple hqy
      obtain ⟨o2, ho2, _⟩ := id p2
      refine call_zipM p1.isList (show s1.heap.IsTuple b its2.toArray from p2) fun h' hz hTI hTO h1 h2 hsz hk => wpAny_pyIter_zip hz ?_
      have I2 : Inv X pins σ H1 { s1 with heap := h' } := I1.kept (t' := s1.toks) hk
      exact ⟨s1.heap.objs.size + 4, [s1.heap.objs.size + 4, s1.heap.objs.size + 2, s1.heap.objs.size + 3, s1.heap.objs.size, s1.heap.objs.size + 1], _, _, H1, rfl, I2, turn_zipM (PySem.W.ktu_apart s1.heap.objs.size a b p1.lt (Heap.lt_size ho2)), ⟨hz, hTI, ⟨_, _, hTO⟩, h1, h2⟩, fresh5, q⟩
theorem for_zipM {K : PySem.W.Frag} {a b : Addr} {xs ys : List V} {g : TG} {tb : TS} {D : Ends} {σ : L2.St} {H : Hp} (hl : xs.length = ys.length) (Pv : Nat → L2.St → Hp → Prop) (h0 : Pv 0 σ H) (hq : ∀ i σ H, Pv i σ H → SqL K H a xs ∧ SqT K H b ys)
    (hs : ∀ (i : Nat) (x y : V) (T : Addr) (σ : L2.St) (H : Hp), xs[i]? = some x → ys[i]? = some y → Pv i σ H → H T = none → g (.ref T) σ (upd H T (.tup [x, y])) fun σ2 H2 => tb { D with nx := Pv (i + 1), ct := Pv (i + 1), bk := D.nx } σ2 H2) (hd : ∀ σ H, Pv xs.length σ H → D.nx σ H) :
    ∃ W : Nat → Nat → L2.St → Hp → Prop, (∃ m, W 0 m σ H) ∧ ∀ i m σ H, W i m σ H →
      ((ItzM K a b).stop i H ∧ D.nx σ H) ∨ ((ItzM K a b).go i H ∧ ∃ N : L2.St → Hp → Prop, (∀ σ' H', N σ' H' → ∃ m', m' < m ∧ W (i + 1) m' σ' H') ∧ ∀ v H', (ItzM K a b).yld i H v H' → g v σ H' fun σ2 H2 => tb { D with nx := N, ct := N, bk := D.nx } σ2 H2) := by
  refine ⟨fun i m σ H => m = xs.length - i ∧ i ≤ xs.length ∧ Pv i σ H, ⟨xs.length, rfl, Nat.zero_le _, h0⟩, ?_⟩
  rintro i m σ H ⟨rfl, hi, p⟩
  obtain ⟨qx, qy⟩ := hq i σ H p
  by_cases hlt : i < xs.length
  · have hx : xs[i]? = some xs[i] := List.getElem?_eq_getElem hlt
    have hlt2 : i < ys.length := by omega
    have hy : ys[i]? = some ys[i] := List.getElem?_eq_getElem hlt2
    refine .inr ⟨⟨xs, ys, _, _, qx, qy, hx, hy⟩, Pv (i + 1), fun σ' H' p' => ⟨xs.length - (i + 1), by omega, rfl, hlt, p'⟩, fun v H' y => ?_⟩
    obtain ⟨T, x', y', rfl, hT, rfl, f1, f2⟩ := y
    exact hs i x' y' T σ H (f1 xs qx) (f2 ys qy) p hT
  · have e : i = xs.length := by omega
    subst e
    exact .inl ⟨⟨xs, ys, qx, qy, rfl, hl.symm⟩, hd σ H p⟩
end XZ
namespace XQ
open PySem PySem.Spec PyProof.Rows L2 CwR PySem.StrLaws
section
variable {P : Program} {w : World} {K : PySem.W.Frag} {mg : Str → Option Value} {base : Heap}
/-- as Fun.ok; a token is out when the body begins -/
theorem okT {x qual : Str} {st : Stmt} {f : Addr} {fd : FuncData} {N ps : List Str} {k : Nat} {sp : Sp} (F : Fun K x qual st f fd) (S : FnScope N ps (defScope st)) (hnc : ∀ y ∈ (defScope st).names, y.2 ≠ .cell) (hps : 1 ≤ ps.length) (len : ∀ vs H Q E, sp vs H Q E → vs.length = ps.length)
    (hbody : ∀ (cdv : Value) (A : Around) (outer : List Env) (s : Shared) (H : Hp) (vs : List V) (Q : VK) (E : XK), Room k (A.deeper (envOfC qual (defScope st) s.heap.objs.size f cdv)) → sp vs H Q E →
      ∃ t, PSsT (cxOf CX0 P w K mg base N qual (defScope st) f cdv A outer s H E) (defBody st) t ∧ t { nx := fun _ H' => Q .non H', rt := Q } (start N vs) H) : FnOk P w K mg base CX0 (k + 1) f fd ps sp := by
  obtain ⟨oc, od, kV, doc, pm, an, cdv, ct, osl, rfl, lk, hcd⟩ := F.ex
  exact fn_ofT lk hcd S hnc hps len fun A outer s H vs Q E hr hsp => hbody cdv A outer s H vs Q E hr hsp
end
section
variable {X : Cx}
theorem pst_set {i : Nat} {x : Str} {e : Expr} {te : TE} {pos pos' : Pos} (hN : X.N.Nodup) (hi : X.N[i]? = some x) (hx : Loc X.env.scope x) (he : PET X e te) (hs : swapsWith e (some (.Name x pos')) pos.line X.env = pure false := by rfl) (hf : X.fn x = true ∨ X.env.scope.names.lookup x = some .local := by first | exact .inl rfl | exact .inr rfl | assumption) :
    PST X (.Assign [.Name x pos'] e pos) (tAsg te (gName i)) := by
  intro pins s σ H D h0 I h
  refine wpAny_Assign_Name (thn (he pins s σ H _ h0 I h) fun v s1 ⟨y, H1, I1, r1, q1⟩ => ?_) hs
  exact store_ok I1 hN hi hx r1 (fun s2 I2 => ⟨_, H1, I2, q1⟩) hf
end
/-- a text as it is quoted -/
def qText (x : Str) : Str := ("\"" : Str) ++ Txt.replace (Txt.replace (Txt.replace x "\\" "\\\\") "\"" "\\\"") "\n" "\\n" ++ ("\"" : Str)
def escC (c : Nat) : List Nat := if c = 92 then [92, 92] else if c = 34 then [92, 34] else if c = 10 then [92, 110] else [c]
theorem repl_one (c : Nat) (z : List Nat) : ∀ l : List Nat, replL [c] z l = l.flatMap fun d => if d = c then z else [d]
  | [] => replL_nil
  | d :: r => by
    by_cases h : d = c
    · subst h
      rw [replL_hit (by simp) (by simp), List.flatMap_cons, if_pos rfl, ← repl_one d z r]
      rfl
    · rw [replL_miss (by simpa using h), List.flatMap_cons, if_neg h, ← repl_one c z r]
      rfl
theorem qText_list (x : Str) : (qText x).cps.toList = 34 :: (x.cps.toList.flatMap escC ++ [34]) := by
  have app : ∀ a b : Str, (a ++ b).cps.toList = a.cps.toList ++ b.cps.toList := fun a b => by
    show (a.cps ++ b.cps).toList = _
    rw [Array.toList_append]
  unfold qText
  rw [app, app, replace_list (by decide +kernel), replace_list (by decide +kernel), replace_list (by decide +kernel)]
  rw [show (("\n" : Str)).cps.toList = [10] by decide +kernel, show (("\\n" : Str)).cps.toList = [92, 110] by decide +kernel, show (("\"" : Str)).cps.toList = [34] by decide +kernel, show (("\\\"" : Str)).cps.toList = [92, 34] by decide +kernel, show (("\\" : Str)).cps.toList = [92] by decide +kernel, show (("\\\\" : Str)).cps.toList = [92, 92] by decide +kernel]
  rw [repl_one, repl_one, repl_one, List.flatMap_assoc, List.flatMap_assoc]
  show 34 :: ([] ++ _ ++ _) = _
  rw [List.nil_append]
  congr 3
  funext d
  unfold escC
  by_cases h1 : d = 92
  · subst h1; rfl
  · by_cases h2 : d = 34
    · subst h2; rfl
    · by_cases h3 : d = 10
      · subst h3; rfl
      · simp [h1, h2, h3]
end XQ
namespace My
open PySem L2 SX XT XS XE XD XL
def top (i : Nat) : Stmt := PySem.Challenge.pw_livequill_k20_lists_by_methods.main.body.getD i (.Pass ⟨0, 0, 0, 0⟩)
abbrev s_tagged : Stmt := top 9
theorem sc_tagged : FnScope ["key"] ["key"] (defScope s_tagged) := ⟨rfl, rfl, rfl, by decide +kernel, rfl, by decide +kernel, by decide +kernel⟩
abbrev s_kind_of : Stmt := top 13
theorem sc_kind_of : FnScope ["store", "value"] ["store", "value"] (defScope s_kind_of) := ⟨rfl, rfl, rfl, by decide +kernel, rfl, by decide +kernel, by decide +kernel⟩
abbrev s_kind_of_thing : Stmt := top 14
theorem sc_kind_of_thing : FnScope ["thing"] ["thing"] (defScope s_kind_of_thing) := ⟨rfl, rfl, rfl, by decide +kernel, rfl, by decide +kernel, by decide +kernel⟩
abbrev s_equal : Stmt := top 15
theorem sc_equal : FnScope ["x", "y"] ["x", "y"] (defScope s_equal) := ⟨rfl, rfl, rfl, by decide +kernel, rfl, by decide +kernel, by decide +kernel⟩
abbrev s_is_key : Stmt := top 16
theorem sc_is_key : FnScope ["value"] ["value"] (defScope s_is_key) := ⟨rfl, rfl, rfl, by decide +kernel, rfl, by decide +kernel, by decide +kernel⟩
abbrev s_check_size : Stmt := top 20
theorem sc_check_size : FnScope ["size"] ["size"] (defScope s_check_size) := ⟨rfl, rfl, rfl, by decide +kernel, rfl, by decide +kernel, by decide +kernel⟩
abbrev s_is_bounded : Stmt := top 21
theorem sc_is_bounded : FnScope ["number"] ["number"] (defScope s_is_bounded) := ⟨rfl, rfl, rfl, by decide +kernel, rfl, by decide +kernel, by decide +kernel⟩
abbrev s_checked_integer : Stmt := top 22
theorem sc_checked_integer : FnScope ["number"] ["number"] (defScope s_checked_integer) := ⟨rfl, rfl, rfl, by decide +kernel, rfl, by decide +kernel, by decide +kernel⟩
abbrev s_check_place : Stmt := top 23
theorem sc_check_place : FnScope ["index", "length"] ["index", "length"] (defScope s_check_place) := ⟨rfl, rfl, rfl, by decide +kernel, rfl, by decide +kernel, by decide +kernel⟩
abbrev s_check_gap : Stmt := top 24
theorem sc_check_gap : FnScope ["index", "length"] ["index", "length"] (defScope s_check_gap) := ⟨rfl, rfl, rfl, by decide +kernel, rfl, by decide +kernel, by decide +kernel⟩
abbrev s_check_gaps : Stmt := top 25
theorem sc_check_gaps : FnScope ["start", "stop", "length"] ["start", "stop", "length"] (defScope s_check_gaps) := ⟨rfl, rfl, rfl, by decide +kernel, rfl, by decide +kernel, by decide +kernel⟩
abbrev s_check_count : Stmt := top 26
theorem sc_check_count : FnScope ["values", "wanted"] ["values", "wanted"] (defScope s_check_count) := ⟨rfl, rfl, rfl, by decide +kernel, rfl, by decide +kernel, by decide +kernel⟩
abbrev s_check_arguments : Stmt := top 27
theorem sc_check_arguments : FnScope ["store", "values", "kinds", "value", "kind"] ["store", "values", "kinds"] (defScope s_check_arguments) := ⟨rfl, rfl, rfl, by decide +kernel, rfl, by decide +kernel, by decide +kernel⟩
abbrev s_check_kind : Stmt := top 28
theorem sc_check_kind : FnScope ["store", "value", "kind"] ["store", "value", "kind"] (defScope s_check_kind) := ⟨rfl, rfl, rfl, by decide +kernel, rfl, by decide +kernel, by decide +kernel⟩
abbrev s_check_alike : Stmt := top 29
theorem sc_check_alike : FnScope ["store", "values", "value"] ["store", "values"] (defScope s_check_alike) := ⟨rfl, rfl, rfl, by decide +kernel, rfl, by decide +kernel, by decide +kernel⟩
abbrev s_refuse_field : Stmt := top 30
theorem sc_refuse_field : FnScope ["store", "x", "name"] ["store", "x", "name"] (defScope s_refuse_field) := ⟨rfl, rfl, rfl, by decide +kernel, rfl, by decide +kernel, by decide +kernel⟩
abbrev s_get_item : Stmt := top 32
theorem sc_get_item : FnScope ["store", "x", "i", "kind", "held"] ["store", "x", "i"] (defScope s_get_item) := ⟨rfl, rfl, rfl, by decide +kernel, rfl, by decide +kernel, by decide +kernel⟩
abbrev s_value_at : Stmt := top 33
theorem sc_value_at : FnScope ["table", "key"] ["table", "key"] (defScope s_value_at) := ⟨rfl, rfl, rfl, by decide +kernel, rfl, by decide +kernel, by decide +kernel⟩
abbrev s_set_item : Stmt := top 34
theorem sc_set_item : FnScope ["store", "x", "i", "value", "kind", "held"] ["store", "x", "i", "value"] (defScope s_set_item) := ⟨rfl, rfl, rfl, by decide +kernel, rfl, by decide +kernel, by decide +kernel⟩
abbrev s_refuse_index : Stmt := top 35
theorem sc_refuse_index : FnScope ["kind"] ["kind"] (defScope s_refuse_index) := ⟨rfl, rfl, rfl, by decide +kernel, rfl, by decide +kernel, by decide +kernel⟩
abbrev s_check_key : Stmt := top 36
theorem sc_check_key : FnScope ["key"] ["key"] (defScope s_check_key) := ⟨rfl, rfl, rfl, by decide +kernel, rfl, by decide +kernel, by decide +kernel⟩
abbrev s_put_entry : Stmt := top 37
theorem sc_put_entry : FnScope ["table", "key", "value"] ["table", "key", "value"] (defScope s_put_entry) := ⟨rfl, rfl, rfl, by decide +kernel, rfl, by decide +kernel, by decide +kernel⟩
abbrev s_make_list : Stmt := top 38
theorem sc_make_list : FnScope ["store", "values"] ["store", "values"] (defScope s_make_list) := ⟨rfl, rfl, rfl, by decide +kernel, rfl, by decide +kernel, by decide +kernel⟩
abbrev s_make_map : Stmt := top 39
theorem sc_make_map : FnScope ["store", "pairs", "table", "key", "value"] ["store", "pairs"] (defScope s_make_map) := ⟨rfl, rfl, rfl, by decide +kernel, rfl, by decide +kernel, by decide +kernel⟩
abbrev s_quoted : Stmt := top 41
theorem sc_quoted : FnScope ["text", "held"] ["text"] (defScope s_quoted) := ⟨rfl, rfl, rfl, by decide +kernel, rfl, by decide +kernel, by decide +kernel⟩
abbrev s_write_value : Stmt := top 44
theorem sc_write_value : FnScope ["store", "value", "most", "form"] ["store", "value", "most"] (defScope s_write_value) := ⟨rfl, rfl, rfl, by decide +kernel, rfl, by decide +kernel, by decide +kernel⟩
abbrev s_text_of : Stmt := top 45
theorem sc_text_of : FnScope ["store", "value", "most"] ["store", "value", "most"] (defScope s_text_of) := ⟨rfl, rfl, rfl, by decide +kernel, rfl, by decide +kernel, by decide +kernel⟩
abbrev s_write : Stmt := top 47
theorem sc_write : FnScope ["form", "value", "thing"] ["form", "value"] (defScope s_write) := ⟨rfl, rfl, rfl, by decide +kernel, rfl, by decide +kernel, by decide +kernel⟩
abbrev s_write_around : Stmt := top 48
theorem sc_write_around : FnScope ["form", "ref", "opening", "closing"] ["form", "ref", "opening", "closing"] (defScope s_write_around) := ⟨rfl, rfl, rfl, by decide +kernel, rfl, by decide +kernel, by decide +kernel⟩
abbrev s_write_held : Stmt := top 49
theorem sc_write_held : FnScope ["form", "thing", "gap", "held", "at", "value"] ["form", "thing"] (defScope s_write_held) := ⟨rfl, rfl, rfl, by decide +kernel, rfl, by decide +kernel, by decide +kernel⟩
abbrev s_held_by : Stmt := top 50
theorem sc_held_by : FnScope ["thing", "part"] ["thing"] (defScope s_held_by) := ⟨rfl, rfl, rfl, by decide +kernel, rfl, by decide +kernel, by decide +kernel⟩
abbrev s_plain_form : Stmt := top 51
theorem sc_plain_form : FnScope ["form", "value", "thing", "name"] ["form", "value", "thing"] (defScope s_plain_form) := ⟨rfl, rfl, rfl, by decide +kernel, rfl, by decide +kernel, by decide +kernel⟩
abbrev s_push : Stmt := top 53
theorem sc_push : FnScope ["store", "parts", "x"] ["store", "parts", "x"] (defScope s_push) := ⟨rfl, rfl, rfl, by decide +kernel, rfl, by decide +kernel, by decide +kernel⟩
abbrev s_insert : Stmt := top 54
theorem sc_insert : FnScope ["store", "parts", "i", "x"] ["store", "parts", "i", "x"] (defScope s_insert) := ⟨rfl, rfl, rfl, by decide +kernel, rfl, by decide +kernel, by decide +kernel⟩
abbrev s_take_last : Stmt := top 55
theorem sc_take_last : FnScope ["store", "parts"] ["store", "parts"] (defScope s_take_last) := ⟨rfl, rfl, rfl, by decide +kernel, rfl, by decide +kernel, by decide +kernel⟩
abbrev s_join : Stmt := top 62
theorem sc_join : FnScope ["store", "parts", "between"] ["store", "parts", "between"] (defScope s_join) := ⟨rfl, rfl, rfl, by decide +kernel, rfl, by decide +kernel, by decide +kernel⟩
abbrev s_joined : Stmt := top 63
theorem sc_joined : FnScope ["store", "values", "between", "pieces", "size", "value"] ["store", "values", "between"] (defScope s_joined) := ⟨rfl, rfl, rfl, by decide +kernel, rfl, by decide +kernel, by decide +kernel⟩
abbrev s_count : Stmt := top 68
theorem sc_count : FnScope ["store", "parts", "x", "part"] ["store", "parts", "x"] (defScope s_count) := ⟨rfl, rfl, rfl, by decide +kernel, rfl, by decide +kernel, by decide +kernel⟩
abbrev s_sort : Stmt := top 71
theorem sc_sort : FnScope ["store", "parts"] ["store", "parts"] (defScope s_sort) := ⟨rfl, rfl, rfl, by decide +kernel, rfl, by decide +kernel, by decide +kernel⟩
abbrev s_extend : Stmt := top 72
theorem sc_extend : FnScope ["store", "parts", "other", "more"] ["store", "parts", "other"] (defScope s_extend) := ⟨rfl, rfl, rfl, by decide +kernel, rfl, by decide +kernel, by decide +kernel⟩
abbrev s_total : Stmt := top 73
theorem sc_total : FnScope ["store", "parts", "part"] ["store", "parts"] (defScope s_total) := ⟨rfl, rfl, rfl, by decide +kernel, rfl, by decide +kernel, by decide +kernel⟩
abbrev s_pair_up : Stmt := top 76
theorem sc_pair_up : FnScope ["store", "parts", "other"] ["store", "parts", "other"] (defScope s_pair_up) := ⟨rfl, rfl, rfl, by decide +kernel, rfl, by decide +kernel, by decide +kernel⟩
abbrev s_make_pairs : Stmt := top 77
theorem sc_make_pairs : FnScope ["store", "pairs", "pair"] ["store", "pairs"] (defScope s_make_pairs) := ⟨rfl, rfl, rfl, by decide +kernel, rfl, by decide +kernel, by decide +kernel⟩
abbrev s_has : Stmt := top 80
theorem sc_has : FnScope ["store", "table", "key"] ["store", "table", "key"] (defScope s_has) := ⟨rfl, rfl, rfl, by decide +kernel, rfl, by decide +kernel, by decide +kernel⟩
abbrev s_keys_of : Stmt := top 83
theorem sc_keys_of : FnScope ["store", "table", "key", "_"] ["store", "table"] (defScope s_keys_of) := ⟨rfl, rfl, rfl, by decide +kernel, rfl, by decide +kernel, by decide +kernel⟩
abbrev s_values_of : Stmt := top 84
theorem sc_values_of : FnScope ["store", "table", "_", "value"] ["store", "table"] (defScope s_values_of) := ⟨rfl, rfl, rfl, by decide +kernel, rfl, by decide +kernel, by decide +kernel⟩
abbrev s_entries : Stmt := top 85
theorem sc_entries : FnScope ["store", "table"] ["store", "table"] (defScope s_entries) := ⟨rfl, rfl, rfl, by decide +kernel, rfl, by decide +kernel, by decide +kernel⟩
abbrev s_get : Stmt := top 86
theorem sc_get : FnScope ["store", "table", "key", "other"] ["store", "table", "key", "other"] (defScope s_get) := ⟨rfl, rfl, rfl, by decide +kernel, rfl, by decide +kernel, by decide +kernel⟩
abbrev s_merge : Stmt := top 87
theorem sc_merge : FnScope ["store", "table", "other", "pairs", "new", "key", "value", "_"] ["store", "table", "other"] (defScope s_merge) := ⟨rfl, rfl, rfl, by decide +kernel, rfl, by decide +kernel, by decide +kernel⟩
abbrev s_clear : Stmt := top 90
theorem sc_clear : FnScope ["store", "table", "key", "_"] ["store", "table"] (defScope s_clear) := ⟨rfl, rfl, rfl, by decide +kernel, rfl, by decide +kernel, by decide +kernel⟩
abbrev s_in_capitals : Stmt := top 97
theorem sc_in_capitals : FnScope ["store", "text", "sign"] ["store", "text"] (defScope s_in_capitals) := ⟨rfl, rfl, rfl, by decide +kernel, rfl, by decide +kernel, by decide +kernel⟩
abbrev s_in_small_letters : Stmt := top 98
theorem sc_in_small_letters : FnScope ["store", "text", "sign"] ["store", "text"] (defScope s_in_small_letters) := ⟨rfl, rfl, rfl, by decide +kernel, rfl, by decide +kernel, by decide +kernel⟩
abbrev s_split : Stmt := top 101
theorem sc_split : FnScope ["store", "text", "between"] ["store", "text", "between"] (defScope s_split) := ⟨rfl, rfl, rfl, by decide +kernel, rfl, by decide +kernel, by decide +kernel⟩
abbrev s_check_not_empty : Stmt := top 102
theorem sc_check_not_empty : FnScope ["text"] ["text"] (defScope s_check_not_empty) := ⟨rfl, rfl, rfl, by decide +kernel, rfl, by decide +kernel, by decide +kernel⟩
abbrev s_replace : Stmt := top 105
theorem sc_replace : FnScope ["store", "text", "old", "new"] ["store", "text", "old", "new"] (defScope s_replace) := ⟨rfl, rfl, rfl, by decide +kernel, rfl, by decide +kernel, by decide +kernel⟩
abbrev s_trim : Stmt := top 106
theorem sc_trim : FnScope ["store", "text"] ["store", "text"] (defScope s_trim) := ⟨rfl, rfl, rfl, by decide +kernel, rfl, by decide +kernel, by decide +kernel⟩
abbrev s_begins_with : Stmt := top 107
theorem sc_begins_with : FnScope ["store", "text", "other"] ["store", "text", "other"] (defScope s_begins_with) := ⟨rfl, rfl, rfl, by decide +kernel, rfl, by decide +kernel, by decide +kernel⟩
abbrev s_ends_with : Stmt := top 108
theorem sc_ends_with : FnScope ["store", "text", "other"] ["store", "text", "other"] (defScope s_ends_with) := ⟨rfl, rfl, rfl, by decide +kernel, rfl, by decide +kernel, by decide +kernel⟩
abbrev s_repeat_ : Stmt := top 111
theorem sc_repeat_ : FnScope ["store", "text", "times"] ["store", "text", "times"] (defScope s_repeat_) := ⟨rfl, rfl, rfl, by decide +kernel, rfl, by decide +kernel, by decide +kernel⟩
abbrev s_lines : Stmt := top 114
theorem sc_lines : FnScope ["store", "text"] ["store", "text"] (defScope s_lines) := ⟨rfl, rfl, rfl, by decide +kernel, rfl, by decide +kernel, by decide +kernel⟩
abbrev s_code : Stmt := top 115
theorem sc_code : FnScope ["store", "text", "i"] ["store", "text", "i"] (defScope s_code) := ⟨rfl, rfl, rfl, by decide +kernel, rfl, by decide +kernel, by decide +kernel⟩
abbrev s_call_method : Stmt := top 118
theorem sc_call_method : FnScope ["store", "x", "name", "values", "method", "action", "kinds", "owner"] ["store", "x", "name", "values"] (defScope s_call_method) := ⟨rfl, rfl, rfl, by decide +kernel, rfl, by decide +kernel, by decide +kernel⟩
abbrev s_method_for : Stmt := top 119
theorem sc_method_for : FnScope ["owner", "name"] ["owner", "name"] (defScope s_method_for) := ⟨rfl, rfl, rfl, by decide +kernel, rfl, by decide +kernel, by decide +kernel⟩
abbrev s_law_cell : Stmt := top 123
theorem sc_law_cell : FnScope ["script", "k"] ["script", "k"] (defScope s_law_cell) := ⟨rfl, rfl, rfl, by decide +kernel, rfl, by decide +kernel, by decide +kernel⟩
abbrev s_law_begin : Stmt := top 124
theorem sc_law_begin : FnScope ["script", "k"] ["script", "k"] (defScope s_law_begin) := ⟨rfl, rfl, rfl, by decide +kernel, rfl, by decide +kernel, by decide +kernel⟩
abbrev s_law_draw : Stmt := top 125
theorem sc_law_draw : FnScope ["state", "many", "k", "cell", "prime", "mixed", "digit"] ["state", "many"] (defScope s_law_draw) := ⟨rfl, rfl, rfl, by decide +kernel, rfl, by decide +kernel, by decide +kernel⟩
abbrev s_law_pick : Stmt := top 126
theorem sc_law_pick : FnScope ["state", "row"] ["state", "row"] (defScope s_law_pick) := ⟨rfl, rfl, rfl, by decide +kernel, rfl, by decide +kernel, by decide +kernel⟩
abbrev s_law_value : Stmt := top 127
theorem sc_law_value : FnScope ["state"] ["state"] (defScope s_law_value) := ⟨rfl, rfl, rfl, by decide +kernel, rfl, by decide +kernel, by decide +kernel⟩
abbrev s_law_same : Stmt := top 128
theorem sc_law_same : FnScope ["x", "y"] ["x", "y"] (defScope s_law_same) := ⟨rfl, rfl, rfl, by decide +kernel, rfl, by decide +kernel, by decide +kernel⟩
abbrev s_law_rows : Stmt := top 129
theorem sc_law_rows : FnScope ["told", "due", "k"] ["told", "due"] (defScope s_law_rows) := ⟨rfl, rfl, rfl, by decide +kernel, rfl, by decide +kernel, by decide +kernel⟩
abbrev s_law_call : Stmt := top 130
theorem sc_law_call : FnScope ["store", "name", "values", "e"] ["store", "name", "values"] (defScope s_law_call) := ⟨rfl, rfl, rfl, by decide +kernel, rfl, by decide +kernel, by decide +kernel⟩
abbrev s_law_item : Stmt := top 131
theorem sc_law_item : FnScope ["store", "deed", "i", "value", "e"] ["store", "deed", "i", "value"] (defScope s_law_item) := ⟨rfl, rfl, rfl, by decide +kernel, rfl, by decide +kernel, by decide +kernel⟩
abbrev s_law_places : Stmt := top 132
theorem sc_law_places : FnScope ["row", "value", "k"] ["row", "value"] (defScope s_law_places) := ⟨rfl, rfl, rfl, by decide +kernel, rfl, by decide +kernel, by decide +kernel⟩
abbrev s_law_change : Stmt := top 133
theorem sc_law_change : FnScope ["row", "name", "i", "value", "over"] ["row", "name", "i", "value"] (defScope s_law_change) := ⟨rfl, rfl, rfl, by decide +kernel, rfl, by decide +kernel, by decide +kernel⟩
abbrev s_law_found : Stmt := top 134
theorem sc_law_found : FnScope ["row", "name", "value", "places"] ["row", "name", "value"] (defScope s_law_found) := ⟨rfl, rfl, rfl, by decide +kernel, rfl, by decide +kernel, by decide +kernel⟩
abbrev s_law_equal : Stmt := top 135
theorem sc_law_equal : FnScope ["told", "due"] ["told", "due"] (defScope s_law_equal) := ⟨rfl, rfl, rfl, by decide +kernel, rfl, by decide +kernel, by decide +kernel⟩
abbrev s_law_new : Stmt := top 136
theorem sc_law_new : FnScope ["store", "told", "due"] ["store", "told", "due"] (defScope s_law_new) := ⟨rfl, rfl, rfl, by decide +kernel, rfl, by decide +kernel, by decide +kernel⟩
abbrev s_law_step : Stmt := top 137
theorem sc_law_step : FnScope ["store", "row", "state", "i", "value", "kind", "many", "name", "values", "j", "told"] ["store", "row", "state"] (defScope s_law_step) := ⟨rfl, rfl, rfl, by decide +kernel, rfl, by decide +kernel, by decide +kernel⟩
abbrev s_law_elements : Stmt := top 138
theorem sc_law_elements : FnScope ["store", "row", "i", "value", "told"] ["store", "row", "i", "value", "told"] (defScope s_law_elements) := ⟨rfl, rfl, rfl, by decide +kernel, rfl, by decide +kernel, by decide +kernel⟩
abbrev s_law_wrong : Stmt := top 139
theorem sc_law_wrong : FnScope ["store", "state", "name", "values", "due"] ["store", "state"] (defScope s_law_wrong) := ⟨rfl, rfl, rfl, by decide +kernel, rfl, by decide +kernel, by decide +kernel⟩
abbrev s_law : Stmt := top 140
theorem sc_law : FnScope ["script", "state", "store", "row", "given", "k"] ["script"] (defScope s_law) := ⟨rfl, rfl, rfl, by decide +kernel, rfl, by decide +kernel, by decide +kernel⟩
abbrev s_take_out_lists : Stmt := top 56
theorem sc_take_out_lists : FnScope ["store", "parts", "i"] ["store", "parts", "i"] (defScope s_take_out_lists) := ⟨rfl, rfl, rfl, by decide +kernel, rfl, by decide +kernel, by decide +kernel⟩
abbrev s_length_lists : Stmt := top 58
theorem sc_length_lists : FnScope ["store", "parts"] ["store", "parts"] (defScope s_length_lists) := ⟨rfl, rfl, rfl, by decide +kernel, rfl, by decide +kernel, by decide +kernel⟩
abbrev s_part_between_lists : Stmt := top 60
theorem sc_part_between_lists : FnScope ["store", "parts", "i", "j"] ["store", "parts", "i", "j"] (defScope s_part_between_lists) := ⟨rfl, rfl, rfl, by decide +kernel, rfl, by decide +kernel, by decide +kernel⟩
abbrev s_contains_lists : Stmt := top 64
theorem sc_contains_lists : FnScope ["store", "parts", "x"] ["store", "parts", "x"] (defScope s_contains_lists) := ⟨rfl, rfl, rfl, by decide +kernel, rfl, by decide +kernel, by decide +kernel⟩
abbrev s_find_lists : Stmt := top 66
theorem sc_find_lists : FnScope ["store", "parts", "x", "index", "part"] ["store", "parts", "x"] (defScope s_find_lists) := ⟨rfl, rfl, rfl, by decide +kernel, rfl, by decide +kernel, by decide +kernel⟩
abbrev s_turn_around_lists : Stmt := top 69
theorem sc_turn_around_lists : FnScope ["store", "parts"] ["store", "parts"] (defScope s_turn_around_lists) := ⟨rfl, rfl, rfl, by decide +kernel, rfl, by decide +kernel, by decide +kernel⟩
abbrev s_copy_lists : Stmt := top 74
theorem sc_copy_lists : FnScope ["store", "parts"] ["store", "parts"] (defScope s_copy_lists) := ⟨rfl, rfl, rfl, by decide +kernel, rfl, by decide +kernel, by decide +kernel⟩
abbrev s_take_out_maps : Stmt := top 81
theorem sc_take_out_maps : FnScope ["store", "table", "key", "value"] ["store", "table", "key"] (defScope s_take_out_maps) := ⟨rfl, rfl, rfl, by decide +kernel, rfl, by decide +kernel, by decide +kernel⟩
abbrev s_copy_maps : Stmt := top 88
theorem sc_copy_maps : FnScope ["store", "table"] ["store", "table"] (defScope s_copy_maps) := ⟨rfl, rfl, rfl, by decide +kernel, rfl, by decide +kernel, by decide +kernel⟩
abbrev s_length_maps : Stmt := top 91
theorem sc_length_maps : FnScope ["store", "table"] ["store", "table"] (defScope s_length_maps) := ⟨rfl, rfl, rfl, by decide +kernel, rfl, by decide +kernel, by decide +kernel⟩
abbrev s_length_texts : Stmt := top 95
theorem sc_length_texts : FnScope ["store", "text"] ["store", "text"] (defScope s_length_texts) := ⟨rfl, rfl, rfl, by decide +kernel, rfl, by decide +kernel, by decide +kernel⟩
abbrev s_part_between_texts : Stmt := top 99
theorem sc_part_between_texts : FnScope ["store", "text", "i", "j"] ["store", "text", "i", "j"] (defScope s_part_between_texts) := ⟨rfl, rfl, rfl, by decide +kernel, rfl, by decide +kernel, by decide +kernel⟩
abbrev s_find_texts : Stmt := top 103
theorem sc_find_texts : FnScope ["store", "text", "other", "index"] ["store", "text", "other"] (defScope s_find_texts) := ⟨rfl, rfl, rfl, by decide +kernel, rfl, by decide +kernel, by decide +kernel⟩
abbrev s_contains_texts : Stmt := top 109
theorem sc_contains_texts : FnScope ["store", "text", "other"] ["store", "text", "other"] (defScope s_contains_texts) := ⟨rfl, rfl, rfl, by decide +kernel, rfl, by decide +kernel, by decide +kernel⟩
abbrev s_turn_around_texts : Stmt := top 112
theorem sc_turn_around_texts : FnScope ["store", "text"] ["store", "text"] (defScope s_turn_around_texts) := ⟨rfl, rfl, rfl, by decide +kernel, rfl, by decide +kernel, by decide +kernel⟩
abbrev s_Ref_init : Stmt := inClass (top 5) 0
theorem sc_Ref_init : FnScope ["self", "number"] ["self", "number"] (defScope s_Ref_init) := ⟨rfl, rfl, rfl, by decide +kernel, rfl, by decide +kernel, by decide +kernel⟩
abbrev s_Ref_eq : Stmt := inClass (top 5) 1
theorem sc_Ref_eq : FnScope ["self", "other"] ["self", "other"] (defScope s_Ref_eq) := ⟨rfl, rfl, rfl, by decide +kernel, rfl, by decide +kernel, by decide +kernel⟩
abbrev s_Parts_init : Stmt := inClass (top 7) 0
theorem sc_Parts_init : FnScope ["self", "held"] ["self", "held"] (defScope s_Parts_init) := ⟨rfl, rfl, rfl, by decide +kernel, rfl, by decide +kernel, by decide +kernel⟩
abbrev s_Table_init : Stmt := inClass (top 8) 0
theorem sc_Table_init : FnScope ["self"] ["self"] (defScope s_Table_init) := ⟨rfl, rfl, rfl, by decide +kernel, rfl, by decide +kernel, by decide +kernel⟩
abbrev s_Table_has : Stmt := inClass (top 8) 1
theorem sc_Table_has : FnScope ["self", "key"] ["self", "key"] (defScope s_Table_has) := ⟨rfl, rfl, rfl, by decide +kernel, rfl, by decide +kernel, by decide +kernel⟩
abbrev s_Table_value_of : Stmt := inClass (top 8) 2
theorem sc_Table_value_of : FnScope ["self", "key"] ["self", "key"] (defScope s_Table_value_of) := ⟨rfl, rfl, rfl, by decide +kernel, rfl, by decide +kernel, by decide +kernel⟩
abbrev s_Table_put : Stmt := inClass (top 8) 3
theorem sc_Table_put : FnScope ["self", "key", "value"] ["self", "key", "value"] (defScope s_Table_put) := ⟨rfl, rfl, rfl, by decide +kernel, rfl, by decide +kernel, by decide +kernel⟩
abbrev s_Table_take_out : Stmt := inClass (top 8) 4
theorem sc_Table_take_out : FnScope ["self", "key"] ["self", "key"] (defScope s_Table_take_out) := ⟨rfl, rfl, rfl, by decide +kernel, rfl, by decide +kernel, by decide +kernel⟩
abbrev s_Table_pairs : Stmt := inClass (top 8) 5
theorem sc_Table_pairs : FnScope ["self"] ["self"] (defScope s_Table_pairs) := ⟨rfl, rfl, rfl, by decide +kernel, rfl, by decide +kernel, by decide +kernel⟩
abbrev s_Table_many : Stmt := inClass (top 8) 6
theorem sc_Table_many : FnScope ["self"] ["self"] (defScope s_Table_many) := ⟨rfl, rfl, rfl, by decide +kernel, rfl, by decide +kernel, by decide +kernel⟩
abbrev s_Instance_init : Stmt := inClass (top 10) 0
theorem sc_Instance_init : FnScope ["self", "owner"] ["self", "owner"] (defScope s_Instance_init) := ⟨rfl, rfl, rfl, by decide +kernel, rfl, by decide +kernel, by decide +kernel⟩
abbrev s_Kin_init : Stmt := inClass (top 11) 0
theorem sc_Kin_init : FnScope ["self", "name", "parent"] ["self", "name", "parent"] (defScope s_Kin_init) := ⟨rfl, rfl, rfl, by decide +kernel, rfl, by decide +kernel, by decide +kernel⟩
abbrev s_Form_init : Stmt := inClass (top 46) 0
theorem sc_Form_init : FnScope ["self", "store", "most"] ["self", "store", "most"] (defScope s_Form_init) := ⟨rfl, rfl, rfl, by decide +kernel, rfl, by decide +kernel, by decide +kernel⟩
abbrev s_Form_add : Stmt := inClass (top 46) 1
theorem sc_Form_add : FnScope ["self", "text"] ["self", "text"] (defScope s_Form_add) := ⟨rfl, rfl, rfl, by decide +kernel, rfl, by decide +kernel, by decide +kernel⟩
abbrev s_Form_is_enough : Stmt := inClass (top 46) 2
theorem sc_Form_is_enough : FnScope ["self"] ["self"] (defScope s_Form_is_enough) := ⟨rfl, rfl, rfl, by decide +kernel, rfl, by decide +kernel, by decide +kernel⟩
abbrev s_Store_init : Stmt := inClass (top 121) 0
theorem sc_Store_init : FnScope ["self", "lines"] ["self", "lines"] (defScope s_Store_init) := ⟨rfl, rfl, rfl, by decide +kernel, rfl, by decide +kernel, by decide +kernel⟩
abbrev s_Store_make : Stmt := inClass (top 121) 1
theorem sc_Store_make : FnScope ["self", "thing"] ["self", "thing"] (defScope s_Store_make) := ⟨rfl, rfl, rfl, by decide +kernel, rfl, by decide +kernel, by decide +kernel⟩
abbrev s_Store_at : Stmt := inClass (top 121) 2
theorem sc_Store_at : FnScope ["self", "ref"] ["self", "ref"] (defScope s_Store_at) := ⟨rfl, rfl, rfl, by decide +kernel, rfl, by decide +kernel, by decide +kernel⟩
abbrev sx_ScriptError : Stmt := inClass (top 3) 0
/-- where the classes stand -/
structure Ads where
  Ref : Addr
  Parts : Addr
  Table : Addr
  Instance : Addr
  Kin : Addr
  Form : Addr
  Store : Addr
  LivequillError : Addr
  ScriptError : Addr
structure CF (K : PySem.W.Frag) (mg : Str → Option Value) (C : Addr) (nm : Str) : Prop where
  cl : Cls K C
  g : mg nm = some (.ref C)
  ty : ∀ {H : Hp} {a dx : Addr} {fs : List (Str × V)}, H a = some (.ins C dx fs) → TyX K H (.ref a) (.ref C)
structure Fx (K : PySem.W.Frag) (mg : Str → Option Value) (nm : Str) (st : Stmt) (ps : List Str) where
  f : Addr
  fd : FuncData
  F : Fun K nm nm st f fd
  b : Binds K fd ps []
  g : mg nm = some (.ref f)
structure Ax (K : PySem.W.Frag) (mg : Str → Option Value) (gn nm : Str) (st : Stmt) (ps : List Str) where
  f : Addr
  fd : FuncData
  F : Fun K nm nm st f fd
  b : Binds K fd ps []
  g : mg gn = some (.ref f)
structure Mx (K : PySem.W.Frag) (C : Addr) (nm qual : Str) (st : Stmt) (ps : List Str) where
  f : Addr
  fd : FuncData
  F : Fun K nm qual st f fd
  b : Binds K fd ps []
  m : Meth K C nm f
structure Ix (K : PySem.W.Frag) (C : Addr) (qual : Str) (st : Stmt) (ps : List Str) where
  f : Addr
  fd : FuncData
  F : Fun K "__init__" qual st f fd
  b : Binds K fd ps []
  m : Mk K C f
structure OwnEq (K : PySem.W.Frag) (C f : Addr) : Prop where
  at_ : PySem.W.findIn K (.ref C) "__eq__" = some (some (.ref f))
  fn : PySem.W.isFn K (.ref f) = true
structure Qx (K : PySem.W.Frag) (C : Addr) (qual : Str) (st : Stmt) (ps : List Str) where
  f : Addr
  fd : FuncData
  F : Fun K "__eq__" qual st f fd
  b : Binds K fd ps []
  m : OwnEq K C f
structure Px (K : PySem.W.Frag) (C : Addr) (nm qual : Str) (st : Stmt) (ps : List Str) where
  f : Addr
  p : Addr
  fd : FuncData
  F : Fun K nm qual st f fd
  b : Binds K fd ps []
  m : PropOf K C nm p f
structure Tx (K : PySem.W.Frag) (mg : Str → Option Value) (nm : Str) (vs : List V) where
  a : Addr
  g : mg nm = some (.ref a)
  s : ∀ H, SqT K H a vs
structure Xx (P : Program) (K : PySem.W.Frag) (mg : Str → Option Value) (C : Addr) (nm n1 n2 : Str) where
  f : Addr
  fd : FuncData
  T : Exn P K mg C f n1 n2
  F : ∀ w base, FnOk P w K mg base CX0 1 f fd ["self", n1, n2] (spTwo C n1 n2)
  b : Binds K fd ["self", n1, n2] []
  g : mg nm = some (.ref C)
  ec : ExcC K C
structure Gx (mg : Str → Option Value) (C : Addr) (nm : Str) : Prop where
  g : mg nm = some (.ref C)
/-- what the written part says -/
structure Lib (P : Program) (K : PySem.W.Frag) (mg : Str → Option Value) (A : Ads) where
  z_range : mg "range" = none
  z_len : mg "len" = none
  z_int : mg "int" = none
  z_str : mg "str" = none
  z_bool : mg "bool" = none
  z_isinstance : mg "isinstance" = none
  z_list : mg "list" = none
  z_abs : mg "abs" = none
  z_min : mg "min" = none
  z_max : mg "max" = none
  z_enumerate : mg "enumerate" = none
  z_zip : mg "zip" = none
  z_sorted : mg "sorted" = none
  z_sum : mg "sum" = none
  c_Ref : CF K mg A.Ref "Ref"
  n_Ref_number : PySem.W.findIn K (.ref A.Ref) "number" = some none
  c_Parts : CF K mg A.Parts "Parts"
  n_Parts_held : PySem.W.findIn K (.ref A.Parts) "held" = some none
  c_Table : CF K mg A.Table "Table"
  n_Table__entries : PySem.W.findIn K (.ref A.Table) "_entries" = some none
  c_Instance : CF K mg A.Instance "Instance"
  n_Instance_owner : PySem.W.findIn K (.ref A.Instance) "owner" = some none
  n_Instance_named : PySem.W.findIn K (.ref A.Instance) "named" = some none
  c_Kin : CF K mg A.Kin "Kin"
  n_Kin_name : PySem.W.findIn K (.ref A.Kin) "name" = some none
  n_Kin_parent : PySem.W.findIn K (.ref A.Kin) "parent" = some none
  n_Kin_methods : PySem.W.findIn K (.ref A.Kin) "methods" = some none
  c_Form : CF K mg A.Form "Form"
  n_Form_store : PySem.W.findIn K (.ref A.Form) "store" = some none
  n_Form_most : PySem.W.findIn K (.ref A.Form) "most" = some none
  n_Form_pieces : PySem.W.findIn K (.ref A.Form) "pieces" = some none
  n_Form_size : PySem.W.findIn K (.ref A.Form) "size" = some none
  n_Form_around : PySem.W.findIn K (.ref A.Form) "around" = some none
  c_Store : CF K mg A.Store "Store"
  n_Store_things : PySem.W.findIn K (.ref A.Store) "things" = some none
  n_Store_output : PySem.W.findIn K (.ref A.Store) "output" = some none
  n_Store_lines : PySem.W.findIn K (.ref A.Store) "lines" = some none
  n_Store_taken : PySem.W.findIn K (.ref A.Store) "taken" = some none
  x_LivequillError : Gx mg A.LivequillError "LivequillError"
  x_ScriptError : Xx P K mg A.ScriptError "ScriptError" "kind" "message"
  k_ScriptError_LivequillError : PySem.W.kitOne K (.ref A.ScriptError) (.ref A.LivequillError) = some true
  k_Ref_Parts : PySem.W.kitOne K (.ref A.Ref) (.ref A.Parts) = some false
  k_Ref_Table : PySem.W.kitOne K (.ref A.Ref) (.ref A.Table) = some false
  k_Ref_Instance : PySem.W.kitOne K (.ref A.Ref) (.ref A.Instance) = some false
  k_Ref_Kin : PySem.W.kitOne K (.ref A.Ref) (.ref A.Kin) = some false
  k_Ref_bool : PySem.W.kitOne K (.ref A.Ref) (.type "bool") = some false
  k_Ref_int : PySem.W.kitOne K (.ref A.Ref) (.type "int") = some false
  k_Ref_str : PySem.W.kitOne K (.ref A.Ref) (.type "str") = some false
  k_Ref_list : PySem.W.kitOne K (.ref A.Ref) (.type "list") = some false
  k_Parts_Ref : PySem.W.kitOne K (.ref A.Parts) (.ref A.Ref) = some false
  k_Parts_Table : PySem.W.kitOne K (.ref A.Parts) (.ref A.Table) = some false
  k_Parts_Instance : PySem.W.kitOne K (.ref A.Parts) (.ref A.Instance) = some false
  k_Parts_Kin : PySem.W.kitOne K (.ref A.Parts) (.ref A.Kin) = some false
  k_Parts_bool : PySem.W.kitOne K (.ref A.Parts) (.type "bool") = some false
  k_Parts_int : PySem.W.kitOne K (.ref A.Parts) (.type "int") = some false
  k_Parts_str : PySem.W.kitOne K (.ref A.Parts) (.type "str") = some false
  k_Parts_list : PySem.W.kitOne K (.ref A.Parts) (.type "list") = some false
  k_Table_Ref : PySem.W.kitOne K (.ref A.Table) (.ref A.Ref) = some false
  k_Table_Parts : PySem.W.kitOne K (.ref A.Table) (.ref A.Parts) = some false
  k_Table_Instance : PySem.W.kitOne K (.ref A.Table) (.ref A.Instance) = some false
  k_Table_Kin : PySem.W.kitOne K (.ref A.Table) (.ref A.Kin) = some false
  k_Table_bool : PySem.W.kitOne K (.ref A.Table) (.type "bool") = some false
  k_Table_int : PySem.W.kitOne K (.ref A.Table) (.type "int") = some false
  k_Table_str : PySem.W.kitOne K (.ref A.Table) (.type "str") = some false
  k_Table_list : PySem.W.kitOne K (.ref A.Table) (.type "list") = some false
  k_Instance_Ref : PySem.W.kitOne K (.ref A.Instance) (.ref A.Ref) = some false
  k_Instance_Parts : PySem.W.kitOne K (.ref A.Instance) (.ref A.Parts) = some false
  k_Instance_Table : PySem.W.kitOne K (.ref A.Instance) (.ref A.Table) = some false
  k_Instance_Kin : PySem.W.kitOne K (.ref A.Instance) (.ref A.Kin) = some false
  k_Instance_bool : PySem.W.kitOne K (.ref A.Instance) (.type "bool") = some false
  k_Instance_int : PySem.W.kitOne K (.ref A.Instance) (.type "int") = some false
  k_Instance_str : PySem.W.kitOne K (.ref A.Instance) (.type "str") = some false
  k_Instance_list : PySem.W.kitOne K (.ref A.Instance) (.type "list") = some false
  k_Kin_Ref : PySem.W.kitOne K (.ref A.Kin) (.ref A.Ref) = some false
  k_Kin_Parts : PySem.W.kitOne K (.ref A.Kin) (.ref A.Parts) = some false
  k_Kin_Table : PySem.W.kitOne K (.ref A.Kin) (.ref A.Table) = some false
  k_Kin_Instance : PySem.W.kitOne K (.ref A.Kin) (.ref A.Instance) = some false
  k_Kin_bool : PySem.W.kitOne K (.ref A.Kin) (.type "bool") = some false
  k_Kin_int : PySem.W.kitOne K (.ref A.Kin) (.type "int") = some false
  k_Kin_str : PySem.W.kitOne K (.ref A.Kin) (.type "str") = some false
  k_Kin_list : PySem.W.kitOne K (.ref A.Kin) (.type "list") = some false
  k_Form_Ref : PySem.W.kitOne K (.ref A.Form) (.ref A.Ref) = some false
  k_Form_Parts : PySem.W.kitOne K (.ref A.Form) (.ref A.Parts) = some false
  k_Form_Table : PySem.W.kitOne K (.ref A.Form) (.ref A.Table) = some false
  k_Form_Instance : PySem.W.kitOne K (.ref A.Form) (.ref A.Instance) = some false
  k_Form_Kin : PySem.W.kitOne K (.ref A.Form) (.ref A.Kin) = some false
  k_Form_bool : PySem.W.kitOne K (.ref A.Form) (.type "bool") = some false
  k_Form_int : PySem.W.kitOne K (.ref A.Form) (.type "int") = some false
  k_Form_str : PySem.W.kitOne K (.ref A.Form) (.type "str") = some false
  k_Form_list : PySem.W.kitOne K (.ref A.Form) (.type "list") = some false
  k_Store_Ref : PySem.W.kitOne K (.ref A.Store) (.ref A.Ref) = some false
  k_Store_Parts : PySem.W.kitOne K (.ref A.Store) (.ref A.Parts) = some false
  k_Store_Table : PySem.W.kitOne K (.ref A.Store) (.ref A.Table) = some false
  k_Store_Instance : PySem.W.kitOne K (.ref A.Store) (.ref A.Instance) = some false
  k_Store_Kin : PySem.W.kitOne K (.ref A.Store) (.ref A.Kin) = some false
  k_Store_bool : PySem.W.kitOne K (.ref A.Store) (.type "bool") = some false
  k_Store_int : PySem.W.kitOne K (.ref A.Store) (.type "int") = some false
  k_Store_str : PySem.W.kitOne K (.ref A.Store) (.type "str") = some false
  k_Store_list : PySem.W.kitOne K (.ref A.Store) (.type "list") = some false
  k_NoneType_Ref : PySem.W.kitOne K (.type "NoneType") (.ref A.Ref) = some false
  k_NoneType_Parts : PySem.W.kitOne K (.type "NoneType") (.ref A.Parts) = some false
  k_NoneType_Table : PySem.W.kitOne K (.type "NoneType") (.ref A.Table) = some false
  k_NoneType_Instance : PySem.W.kitOne K (.type "NoneType") (.ref A.Instance) = some false
  k_NoneType_Kin : PySem.W.kitOne K (.type "NoneType") (.ref A.Kin) = some false
  k_bool_Ref : PySem.W.kitOne K (.type "bool") (.ref A.Ref) = some false
  k_bool_Parts : PySem.W.kitOne K (.type "bool") (.ref A.Parts) = some false
  k_bool_Table : PySem.W.kitOne K (.type "bool") (.ref A.Table) = some false
  k_bool_Instance : PySem.W.kitOne K (.type "bool") (.ref A.Instance) = some false
  k_bool_Kin : PySem.W.kitOne K (.type "bool") (.ref A.Kin) = some false
  k_int_Ref : PySem.W.kitOne K (.type "int") (.ref A.Ref) = some false
  k_int_Parts : PySem.W.kitOne K (.type "int") (.ref A.Parts) = some false
  k_int_Table : PySem.W.kitOne K (.type "int") (.ref A.Table) = some false
  k_int_Instance : PySem.W.kitOne K (.type "int") (.ref A.Instance) = some false
  k_int_Kin : PySem.W.kitOne K (.type "int") (.ref A.Kin) = some false
  k_str_Ref : PySem.W.kitOne K (.type "str") (.ref A.Ref) = some false
  k_str_Parts : PySem.W.kitOne K (.type "str") (.ref A.Parts) = some false
  k_str_Table : PySem.W.kitOne K (.type "str") (.ref A.Table) = some false
  k_str_Instance : PySem.W.kitOne K (.type "str") (.ref A.Instance) = some false
  k_str_Kin : PySem.W.kitOne K (.type "str") (.ref A.Kin) = some false
  k_tuple_Ref : PySem.W.kitOne K (.type "tuple") (.ref A.Ref) = some false
  k_tuple_Parts : PySem.W.kitOne K (.type "tuple") (.ref A.Parts) = some false
  k_tuple_Table : PySem.W.kitOne K (.type "tuple") (.ref A.Table) = some false
  k_tuple_Instance : PySem.W.kitOne K (.type "tuple") (.ref A.Instance) = some false
  k_tuple_Kin : PySem.W.kitOne K (.type "tuple") (.ref A.Kin) = some false
  k_list_Ref : PySem.W.kitOne K (.type "list") (.ref A.Ref) = some false
  k_list_Parts : PySem.W.kitOne K (.type "list") (.ref A.Parts) = some false
  k_list_Table : PySem.W.kitOne K (.type "list") (.ref A.Table) = some false
  k_list_Instance : PySem.W.kitOne K (.type "list") (.ref A.Instance) = some false
  k_list_Kin : PySem.W.kitOne K (.type "list") (.ref A.Kin) = some false
  nf_Ref_NoneType : PySem.W.notFirst K A.Ref (.type "NoneType") = true
  su_Ref_NoneType : PySem.W.subIn K (.ref A.Ref) (.type "NoneType") = some false
  nf_Ref_int : PySem.W.notFirst K A.Ref (.type "int") = true
  su_Ref_int : PySem.W.subIn K (.ref A.Ref) (.type "int") = some false
  nf_Ref_str : PySem.W.notFirst K A.Ref (.type "str") = true
  su_Ref_str : PySem.W.subIn K (.ref A.Ref) (.type "str") = some false
  nf_Ref_tuple : PySem.W.notFirst K A.Ref (.type "tuple") = true
  su_Ref_tuple : PySem.W.subIn K (.ref A.Ref) (.type "tuple") = some false
  nf_Ref_list : PySem.W.notFirst K A.Ref (.type "list") = true
  su_Ref_list : PySem.W.subIn K (.ref A.Ref) (.type "list") = some false
  nf_Ref_Parts : PySem.W.notFirst K A.Ref (.ref A.Parts) = true
  nf_Ref_Table : PySem.W.notFirst K A.Ref (.ref A.Table) = true
  nf_Ref_Instance : PySem.W.notFirst K A.Ref (.ref A.Instance) = true
  nf_Ref_Kin : PySem.W.notFirst K A.Ref (.ref A.Kin) = true
  nf_Ref_Form : PySem.W.notFirst K A.Ref (.ref A.Form) = true
  nf_Ref_Store : PySem.W.notFirst K A.Ref (.ref A.Store) = true
  v_MOST_HELD : ∃ t, mg "MOST_HELD" = some (.int 1000 t)
  v_DOUBTFUL_BITS : ∃ t, mg "DOUBTFUL_BITS" = some (.int 997 t)
  v_MOST_AROUND : ∃ t, mg "MOST_AROUND" = some (.int 10 t)
  tagged : Fx K mg "tagged" s_tagged ["key"]
  kind_of : Fx K mg "kind_of" s_kind_of ["store", "value"]
  kind_of_thing : Fx K mg "kind_of_thing" s_kind_of_thing ["thing"]
  equal : Fx K mg "equal" s_equal ["x", "y"]
  is_key : Fx K mg "is_key" s_is_key ["value"]
  check_size : Fx K mg "check_size" s_check_size ["size"]
  is_bounded : Fx K mg "is_bounded" s_is_bounded ["number"]
  checked_integer : Fx K mg "checked_integer" s_checked_integer ["number"]
  check_place : Fx K mg "check_place" s_check_place ["index", "length"]
  check_gap : Fx K mg "check_gap" s_check_gap ["index", "length"]
  check_gaps : Fx K mg "check_gaps" s_check_gaps ["start", "stop", "length"]
  check_count : Fx K mg "check_count" s_check_count ["values", "wanted"]
  check_arguments : Fx K mg "check_arguments" s_check_arguments ["store", "values", "kinds"]
  check_kind : Fx K mg "check_kind" s_check_kind ["store", "value", "kind"]
  check_alike : Fx K mg "check_alike" s_check_alike ["store", "values"]
  refuse_field : Fx K mg "refuse_field" s_refuse_field ["store", "x", "name"]
  get_item : Fx K mg "get_item" s_get_item ["store", "x", "i"]
  value_at : Fx K mg "value_at" s_value_at ["table", "key"]
  set_item : Fx K mg "set_item" s_set_item ["store", "x", "i", "value"]
  refuse_index : Fx K mg "refuse_index" s_refuse_index ["kind"]
  check_key : Fx K mg "check_key" s_check_key ["key"]
  put_entry : Fx K mg "put_entry" s_put_entry ["table", "key", "value"]
  make_list : Fx K mg "make_list" s_make_list ["store", "values"]
  make_map : Fx K mg "make_map" s_make_map ["store", "pairs"]
  quoted : Fx K mg "quoted" s_quoted ["text"]
  write_value : Fx K mg "write_value" s_write_value ["store", "value", "most"]
  text_of : Fx K mg "text_of" s_text_of ["store", "value", "most"]
  write : Fx K mg "write" s_write ["form", "value"]
  write_around : Fx K mg "write_around" s_write_around ["form", "ref", "opening", "closing"]
  write_held : Fx K mg "write_held" s_write_held ["form", "thing"]
  held_by : Fx K mg "held_by" s_held_by ["thing"]
  plain_form : Fx K mg "plain_form" s_plain_form ["form", "value", "thing"]
  push : Fx K mg "push" s_push ["store", "parts", "x"]
  insert : Fx K mg "insert" s_insert ["store", "parts", "i", "x"]
  take_last : Fx K mg "take_last" s_take_last ["store", "parts"]
  join : Fx K mg "join" s_join ["store", "parts", "between"]
  joined : Fx K mg "joined" s_joined ["store", "values", "between"]
  count : Fx K mg "count" s_count ["store", "parts", "x"]
  sort : Fx K mg "sort" s_sort ["store", "parts"]
  extend : Fx K mg "extend" s_extend ["store", "parts", "other"]
  total : Fx K mg "total" s_total ["store", "parts"]
  pair_up : Fx K mg "pair_up" s_pair_up ["store", "parts", "other"]
  make_pairs : Fx K mg "make_pairs" s_make_pairs ["store", "pairs"]
  has : Fx K mg "has" s_has ["store", "table", "key"]
  keys_of : Fx K mg "keys_of" s_keys_of ["store", "table"]
  values_of : Fx K mg "values_of" s_values_of ["store", "table"]
  entries : Fx K mg "entries" s_entries ["store", "table"]
  get : Fx K mg "get" s_get ["store", "table", "key", "other"]
  merge : Fx K mg "merge" s_merge ["store", "table", "other"]
  clear : Fx K mg "clear" s_clear ["store", "table"]
  in_capitals : Fx K mg "in_capitals" s_in_capitals ["store", "text"]
  in_small_letters : Fx K mg "in_small_letters" s_in_small_letters ["store", "text"]
  split : Fx K mg "split" s_split ["store", "text", "between"]
  check_not_empty : Fx K mg "check_not_empty" s_check_not_empty ["text"]
  replace : Fx K mg "replace" s_replace ["store", "text", "old", "new"]
  trim : Fx K mg "trim" s_trim ["store", "text"]
  begins_with : Fx K mg "begins_with" s_begins_with ["store", "text", "other"]
  ends_with : Fx K mg "ends_with" s_ends_with ["store", "text", "other"]
  repeat_ : Fx K mg "repeat" s_repeat_ ["store", "text", "times"]
  lines : Fx K mg "lines" s_lines ["store", "text"]
  code : Fx K mg "code" s_code ["store", "text", "i"]
  call_method : Fx K mg "call_method" s_call_method ["store", "x", "name", "values"]
  method_for : Fx K mg "method_for" s_method_for ["owner", "name"]
  law_cell : Fx K mg "_law_cell" s_law_cell ["script", "k"]
  law_begin : Fx K mg "_law_begin" s_law_begin ["script", "k"]
  law_draw : Fx K mg "_law_draw" s_law_draw ["state", "many"]
  law_pick : Fx K mg "_law_pick" s_law_pick ["state", "row"]
  law_value : Fx K mg "_law_value" s_law_value ["state"]
  law_same : Fx K mg "_law_same" s_law_same ["x", "y"]
  law_rows : Fx K mg "_law_rows" s_law_rows ["told", "due"]
  law_call : Fx K mg "_law_call" s_law_call ["store", "name", "values"]
  law_item : Fx K mg "_law_item" s_law_item ["store", "deed", "i", "value"]
  law_places : Fx K mg "_law_places" s_law_places ["row", "value"]
  law_change : Fx K mg "_law_change" s_law_change ["row", "name", "i", "value"]
  law_found : Fx K mg "_law_found" s_law_found ["row", "name", "value"]
  law_equal : Fx K mg "_law_equal" s_law_equal ["told", "due"]
  law_new : Fx K mg "_law_new" s_law_new ["store", "told", "due"]
  law_step : Fx K mg "_law_step" s_law_step ["store", "row", "state"]
  law_elements : Fx K mg "_law_elements" s_law_elements ["store", "row", "i", "value", "told"]
  law_wrong : Fx K mg "_law_wrong" s_law_wrong ["store", "state"]
  take_out_lists : Ax K mg "take_out_lists" "take_out" s_take_out_lists ["store", "parts", "i"]
  length_lists : Ax K mg "length_lists" "length" s_length_lists ["store", "parts"]
  part_between_lists : Ax K mg "part_between_lists" "part_between" s_part_between_lists ["store", "parts", "i", "j"]
  contains_lists : Ax K mg "contains_lists" "contains" s_contains_lists ["store", "parts", "x"]
  find_lists : Ax K mg "find_lists" "find" s_find_lists ["store", "parts", "x"]
  turn_around_lists : Ax K mg "turn_around_lists" "turn_around" s_turn_around_lists ["store", "parts"]
  copy_lists : Ax K mg "copy_lists" "copy" s_copy_lists ["store", "parts"]
  take_out_maps : Ax K mg "take_out_maps" "take_out" s_take_out_maps ["store", "table", "key"]
  copy_maps : Ax K mg "copy_maps" "copy" s_copy_maps ["store", "table"]
  length_maps : Ax K mg "length_maps" "length" s_length_maps ["store", "table"]
  length_texts : Ax K mg "length_texts" "length" s_length_texts ["store", "text"]
  part_between_texts : Ax K mg "part_between_texts" "part_between" s_part_between_texts ["store", "text", "i", "j"]
  find_texts : Ax K mg "find_texts" "find" s_find_texts ["store", "text", "other"]
  contains_texts : Ax K mg "contains_texts" "contains" s_contains_texts ["store", "text", "other"]
  turn_around_texts : Ax K mg "turn_around_texts" "turn_around" s_turn_around_texts ["store", "text"]
  Ref_init : Ix K A.Ref "Ref.__init__" s_Ref_init ["self", "number"]
  Ref_eq : Qx K A.Ref "Ref.__eq__" s_Ref_eq ["self", "other"]
  Parts_init : Ix K A.Parts "Parts.__init__" s_Parts_init ["self", "held"]
  Table_init : Ix K A.Table "Table.__init__" s_Table_init ["self"]
  Table_has : Mx K A.Table "has" "Table.has" s_Table_has ["self", "key"]
  Table_value_of : Mx K A.Table "value_of" "Table.value_of" s_Table_value_of ["self", "key"]
  Table_put : Mx K A.Table "put" "Table.put" s_Table_put ["self", "key", "value"]
  Table_take_out : Mx K A.Table "take_out" "Table.take_out" s_Table_take_out ["self", "key"]
  Table_pairs : Mx K A.Table "pairs" "Table.pairs" s_Table_pairs ["self"]
  Table_many : Px K A.Table "many" "Table.many" s_Table_many ["self"]
  Instance_init : Ix K A.Instance "Instance.__init__" s_Instance_init ["self", "owner"]
  Kin_init : Ix K A.Kin "Kin.__init__" s_Kin_init ["self", "name", "parent"]
  Form_init : Ix K A.Form "Form.__init__" s_Form_init ["self", "store", "most"]
  Form_add : Mx K A.Form "add" "Form.add" s_Form_add ["self", "text"]
  Form_is_enough : Mx K A.Form "is_enough" "Form.is_enough" s_Form_is_enough ["self"]
  Store_init : Ix K A.Store "Store.__init__" s_Store_init ["self", "lines"]
  Store_make : Mx K A.Store "make" "Store.make" s_Store_make ["self", "thing"]
  Store_at : Mx K A.Store "at" "Store.at" s_Store_at ["self", "ref"]
end My
namespace My
open PySem L2 SX XT XS XE
open C8 (pss_cut tCut cutS_slice pe_gc)
def Keep (p : Addr) (H H' : Hp) : Prop := ∀ b o, H b = some o → b ≠ p → H' b = some o
theorem Same.keep {p : Addr} {H H' : Hp} (s : Same H H') : Keep p H H' := fun b o e _ => s b o e
theorem Keep.trans {p : Addr} {H H1 H2 : Hp} (a : Keep p H H1) (b : Keep p H1 H2) : Keep p H H2 := fun c o e n => b c o (a c o e n) n
theorem keep_upd {p : Addr} {H : Hp} {o : HO} : Keep p H (upd H p o) := fun b x e n => by
  rw [upd_ne n]
  exact e
theorem same_upd {H : Hp} {p : Addr} {o : HO} (h : H p = none) : Same H (upd H p o) := fun b x e => by
  rw [upd_ne (ne_of_none e h)]
  exact e
theorem lk_hit {k : Str} {v : V} {r : List (Str × V)} : ((k, v) :: r).lookup k = some v := by
  simp [List.lookup]
theorem ifF {b : Bool} {A B : Prop} (h : b = false) (q : B) : if b = true then A else B := by
  rw [h]
  exact iteF q
theorem ifT {b : Bool} {A B : Prop} (h : b = true) (q : A) : if b = true then A else B := by
  rw [h]
  exact iteT q
theorem ite_or {b : Bool} {A B : Prop} (h1 : b = true → A) (h2 : b = false → B) : if b = true then A else B := by
  cases b with
  | true => exact iteT (h1 rfl)
  | false => exact iteF (h2 rfl)
theorem lk_skip {k k' : Str} {v : V} {r : List (Str × V)} (h : (k == k') = false) : ((k', v) :: r).lookup k = r.lookup k := by
  simp [List.lookup, h]
theorem kit_self {K : PySem.W.Frag} (C : Addr) : PySem.W.kitOne K (.ref C) (.ref C) = some true := if_pos (beq_self_eq_true _)
theorem nf_self {K : PySem.W.Frag} (C : Addr) : PySem.W.notFirst K C (.ref C) = true := by simp [PySem.W.notFirst]
theorem ne_cls {K : PySem.W.Frag} {C D : Addr} (h : PySem.W.kitOne K (.ref C) (.ref D) = some false) : C ≠ D := fun z => by
  rw [z, kit_self] at h
  cases h
theorem sqt_same {K : PySem.W.Frag} {H H' : Hp} {r : Addr} {xs : List V} (s : Same H H') (h : SqT K H r xs) : SqT K H' r xs := by
  rcases h with (h | ⟨ob, h⟩) | h
  · exact .inl (.inl (s _ _ h))
  · exact .inl (.inr ⟨ob, s _ _ h⟩)
  · exact .inr h
theorem Same.put {H H' : Hp} {p : Addr} {o : HO} (s : Same H H') (h : H p = none) : Same H (upd H' p o) := fun b x e => by
  rw [upd_ne (ne_of_none e h)]
  exact s _ _ e
theorem seq_nat {i n : Nat} (h : i < n) : seqIndex? (i : Int) n = some i := by
  unfold seqIndex?
  split <;> first | (simp; omega) | (simp_all; try omega)
theorem ixN_nat {i n : Nat} (h : i < n) : ixN n (i : Int) = some i := by
  unfold ixN
  split <;> first | (simp; omega) | (simp_all; try omega)
end My
namespace My
open PySem L2 SX
open C8 (pss_cut tCut cutS_slice pe_gc)
/-! ### == between values of which one has its own __eq__ -/
section
variable {prog : Program} {w : World} {A : Around} {E : Value → Shared → Prop} {s : Shared} {K : PySem.W.Frag} {x C L f : Addr} {h₀ : Heap} {m : Str → Option Value} {ox : Obj} {od : Option Obj}
theorem cmp_back {a : Value} {Ta id : String} {Q : Value → Shared → Prop} (hu : A.units < cLine) (F : PyProof.Rows.Fr h₀ L s.heap m) (X₀ : K.In h₀) (I : PySem.W.InstAt s.heap x ox C od) (ha : s.TypeIs a Ta) (h1 : Slot Ta "__eq__" id)
    (hsub : PySem.W.subIn K (.ref C) (.type Ta) = some false) (hc : ∀ Q' : Value → Shared → Prop, Q' .notImplemented s → wpAny (model prog w) A (call (.builtin id) [a, .ref x]) Q' E s)
    (hs : PySem.W.findIn K (.ref C) "__eq__" = some (some (.ref f))) (hf : PySem.W.isFn K (.ref f) = true)
    (h : wpAny (model prog w) A (call (.ref f) [.ref x, a]) (PySem.W.CmpBack Q) E s) : wpAny (model prog w) A (richCompare .Eq a (.ref x)) Q E s := by
  have X := X₀.keeps F.keep
  have one : wpAny (model prog w) A (tryCompare (.ref x) "__eq__" a) (fun r s' => ∃ v, r = some v ∧ Q v s') E s := by
    unfold tryCompare
    refine wpAny_bind (PySem.W.ifBound_K X I hs hf (wpAny_mono h (fun v s' hv => ?_) fun _ _ e => e))
    cases v <;> first | exact hv.elim | exact wpAny_pure ⟨_, rfl, hv⟩
  unfold richCompare
  simp only [cmpInfo, ha.oneThing_none]
  refine wpAny_holding (wpAny_bind (wpAny_cRoomFor hu ?_))
  refine wpAny_bind (wpAny_typeOf ha (wpAny_bind (I.type.here ?_)))
  have hne : (Value.ref C == Value.type Ta) = false := rfl
  have hne' : (Value.type Ta != Value.ref C) = true := rfl
  simp only [hne', if_true]
  refine wpAny_bind ((PySem.W.looks_subIn X hsub).here ?_)
  simp only [Bool.false_eq_true, if_false, Bool.not_false, if_true]
  refine wpAny_bind (m := tryCompare a _ _) (wpAny_tryCompare_declines ha h1 (hc _ ⟨rfl, ?_⟩))
  refine wpAny_bind (wpAny_mono one (fun r s' z => ?_) fun _ _ e => e)
  obtain ⟨v, rfl, hq⟩ := z
  exact wpAny_pure hq
end
theorem int_eq_declines_ins (b : Int) (u : Tok) (l : Addr) (o : Obj) :
    PySem.Meets (Builtin.«int.__eq__» ⟨[.int b u, .ref l], []⟩) (fun _ R s => s.heap.get? l = some o ∧ o.data = .plain ∧ (∃ C, o.cls = .ref C) ∧ R (.ok (.ret .notImplemented)) s) :=
  .of_wp fun prog w A R s h => by
    obtain ⟨hp, g, d, tk, os⟩ := s
    obtain ⟨hl, hd, ⟨C, hC⟩, h⟩ := h
    obtain ⟨cls, dd, dat, sl⟩ := o
    cases hd
    cases hC
    wp_walk using PySem.AutoSeq1.wpAny_loadPart' hl, wpAny_load hl
    exact ⟨_, rfl, h⟩
theorem str_eq_declines_ins (b : Str) (u : Tok) (l : Addr) (o : Obj) :
    PySem.Meets (Builtin.«str.__eq__» ⟨[.str b u, .ref l], []⟩) (fun _ R s => s.heap.get? l = some o ∧ o.data = .plain ∧ (∃ C, o.cls = .ref C) ∧ R (.ok (.ret .notImplemented)) s) :=
  .of_wp fun prog w A R s h => by
    obtain ⟨hp, g, d, tk, os⟩ := s
    obtain ⟨hl, hd, ⟨C, hC⟩, h⟩ := h
    obtain ⟨cls, dd, dat, sl⟩ := o
    cases hd
    cases hC
    wp_walk using PySem.AutoSeq1.wpAny_loadPart' hl, wpAny_load hl
    exact ⟨_, rfl, h⟩
/-- the type of a scalar or of an instance -/
inductive TyE (H : Hp) : V → Value → Prop where
  | non : TyE H .non (.type "NoneType")
  | bl (b : Bool) : TyE H (.bl b) (.type "bool")
  | int (i : Int) : TyE H (.int i) (.type "int")
  | str (x : Str) : TyE H (.str x) (.type "str")
  | ins {a C dx : Addr} {fs : List (Str × V)} (e : H a = some (.ins C dx fs)) : TyE H (.ref a) (.ref C)
theorem TyE.looks {X : Cx} {pins : List (Addr × Obj)} {s : Shared} {σ : St} {H : Hp} {y : V} {u t : Value} (I : Inv X pins σ H s) (r : RelV y u) (ty : TyE H y t) : PySem.W.Looks (model X.prog X.w) s.heap (typeOf u) t := by
  cases ty with
  | non => cases (show u = Value.none from r); exact .of_pure rfl
  | bl b => cases (show u = Value.bool b from r); exact .of_pure rfl
  | int i => obtain ⟨t', e⟩ := (show ∃ t, u = Value.int i t from r); cases e; exact .of_pure rfl
  | str x => obtain ⟨t', e⟩ := (show ∃ t, u = Value.str x t from r); cases e; exact .of_pure rfl
  | ins e =>
    cases (show u = Value.ref _ from r)
    obtain ⟨mA, J, _⟩ := ins_get I.hok e
    obtain ⟨od, J, _⟩ := J.look
    exact J.type
/-- what the call of the own == gives back -/
theorem own_run {X : Cx} {n : Nat} {CX : CXT} {f : Addr} {fd : FuncData} {ps : List Str} {sp : Sp} {E : XK} (F : FnOk X.prog X.w X.K X.mg X.base CX n f fd ps sp) (hb : Binds X.K fd ps []) (hx : Passes CX X E) (hr : Room n X.A)
    {pins : List (Addr × Obj)} {s : Shared} {σ : St} {H : Hp} {x y : V} {v u : Value} {Q : VK} (I : Inv X pins σ H s) (rx : RelV x v) (ry : RelV y u) (h : sp [x, y] H (fun z H' => ∃ b, z = .bl b ∧ Q (.bl b) H') E) :
    wpAny (model X.prog X.w) X.A (call (.ref f) [v, u]) (PySem.W.CmpBack (EP X pins σ Q)) X.xe s := by
  have hl := F.len _ _ _ _ h
  have r2 : Vals [x, y] [v, u] := .cons rx (.cons ry .nil)
  refine wpAny_call (codeAny_mono (F.run X.A X.stack s H ⟨[v, u], []⟩ [v, u] [x, y] _ E hr I.env0 (by
    have := hb s [v, u] I.kIn (by simpa using hl)
    simpa using this) r2 h) fun r s' hq => ?_)
  cases r with
  | error e => exact hx pins σ H s e s' I hq
  | ok fl =>
    cases fl with
    | ret w =>
      obtain ⟨z, H', I', rz, b, ez, q⟩ := I.after hq
      subst ez
      cases (show w = Value.bool b from rz)
      exact ⟨.bl b, H', I', rfl, q⟩
    | next => exact False.elim hq
    | brk => exact False.elim hq
    | cont => exact False.elim hq
/-- an instance with its own == on the left -/
theorem op_eqL {X : Cx} {n : Nat} {CX : CXT} {C f : Addr} {fd : FuncData} {ps : List Str} {sp : Sp} {E : XK} (O : OwnEq X.K C f) (F : FnOk X.prog X.w X.K X.mg X.base CX n f fd ps sp) (hb : Binds X.K fd ps []) (hx : Passes CX X E) (hr : Room n X.A) :
    OpR X (compareOp .Eq) (fun x y H Q => ∃ a dx fs tb, x = .ref a ∧ H a = some (.ins C dx fs) ∧ TyE H y tb ∧ PySem.W.notFirst X.K C tb = true ∧ sp [x, y] H (fun z H' => ∃ b, z = .bl b ∧ Q (.bl b) H') E) := by
  intro pins s σ H x y v u Q I rx ry h
  obtain ⟨a, dx, fs, tb, rfl, ha, ty, hn, h⟩ := h
  cases (show v = Value.ref a from rx)
  obtain ⟨mA, J, _⟩ := ins_get I.hok ha
  obtain ⟨od, J, _⟩ := J.look
  obtain ⟨m, hF⟩ := I.fr
  show wpAny (model X.prog X.w) X.A (richCompare .Eq (.ref a) u) (EP X pins σ Q) X.xe s
  exact PySem.W.cmp_K (op := .Eq) hr.units0 hF I.ok.mod.kin J (ty.looks I ry) hn O.at_ O.fn (own_run F hb hx hr I (x := .ref a) (v := .ref a) rfl ry h)
/-- a scalar on the left, an instance with its own == on the right -/
theorem op_eqR {X : Cx} {n : Nat} {CX : CXT} {C f : Addr} {fd : FuncData} {ps : List Str} {sp : Sp} {E : XK} (O : OwnEq X.K C f) (F : FnOk X.prog X.w X.K X.mg X.base CX n f fd ps sp) (hb : Binds X.K fd ps []) (hx : Passes CX X E) (hr : Room n X.A)
    (h1 : PySem.W.subIn X.K (.ref C) (.type "NoneType") = some false) (h2 : PySem.W.subIn X.K (.ref C) (.type "int") = some false) (h3 : PySem.W.subIn X.K (.ref C) (.type "str") = some false) :
    OpR X (compareOp .Eq) (fun x y H Q => ∃ a dx fs, y = .ref a ∧ H a = some (.ins C dx fs) ∧ (x = .non ∨ (∃ i, x = .int i) ∨ ∃ z, x = .str z) ∧ sp [y, x] H (fun z H' => ∃ b, z = .bl b ∧ Q (.bl b) H') E) := by
  intro pins s σ H x y v u Q I rx ry h
  obtain ⟨a, dx, fs, rfl, ha, hx', h⟩ := h
  cases (show u = Value.ref a from ry)
  obtain ⟨mA, J, _⟩ := ins_get I.hok ha
  have hob := J.obj
  obtain ⟨od, J, _⟩ := J.look
  obtain ⟨m, hF⟩ := I.fr
  show wpAny (model X.prog X.w) X.A (richCompare .Eq v (.ref a)) (EP X pins σ Q) X.xe s
  have hc := own_run F hb hx hr I (x := .ref a) (v := .ref a) (u := v) rfl rx h
  rcases hx' with rfl | ⟨i, rfl⟩ | ⟨z, rfl⟩
  · cases (show v = Value.none from rx)
    exact cmp_back hr.units0 hF I.ok.mod.kin J (Ta := "NoneType") rfl PySem.F.slot_NoneType_eq h1 (fun Q' hq => call_gives PySem.F.slot_NoneType_eq rfl PySem.F.entry_NoneType_eq (PySem.F.args_NoneType_eq_2 _ _) (SeqAt.NoneType___eq___none_ref_0 a) hq) O.at_ O.fn hc
  · obtain ⟨t, rfl⟩ := (show ∃ t, v = Value.int i t from rx)
    exact cmp_back hr.units0 hF I.ok.mod.kin J (Ta := "int") (typeIs_int s i t) PySem.F.slot_int_eq h2 (fun Q' hq => call_meets PySem.F.slot_int_eq (typeIs_int s i t) PySem.F.entry_int_eq (PySem.F.args_int_eq_2 _ _) (int_eq_declines_ins i t a _) ⟨hob, rfl, ⟨_, rfl⟩, hq⟩) O.at_ O.fn hc
  · obtain ⟨t, rfl⟩ := (show ∃ t, v = Value.str z t from rx)
    exact cmp_back hr.units0 hF I.ok.mod.kin J (Ta := "str") (typeIs_str s z t) PySem.F.slot_str_eq h3 (fun Q' hq => call_meets PySem.F.slot_str_eq (typeIs_str s z t) PySem.F.entry_str_eq (PySem.F.args_str_eq_2 _ _) (str_eq_declines_ins z t a _) ⟨hob, rfl, ⟨_, rfl⟩, hq⟩) O.at_ O.fn hc
end My
namespace My
open PySem L2 SX XT XS XE
open C8 (pss_cut tCut cutS_slice pe_gc)
/-! ### values -/
inductive Dv where
  | non
  | bl (b : Bool)
  | int (i : Int)
  | str (x : Str)
  | obj (n : Nat)
  deriving DecidableEq
abbrev refF (n : Nat) : List (Str × V) := [("number", .int (n : Nat))]
def Has (A : Ads) (H : Hp) : V → Dv → Prop := fun v d => match d with
  | .non => v = .non
  | .bl b => v = .bl b
  | .int i => v = .int i
  | .str x => v = .str x
  | .obj n => ∃ a dx, v = .ref a ∧ H a = some (.ins A.Ref dx (refF n))
/-- what is not a list stays -/
def Sv (H H' : Hp) : Prop := ∀ b u, H b = some u → (∀ xs, u ≠ .lst xs) → H' b = some u
theorem Same.sv {H H' : Hp} (s : Same H H') : Sv H H' := fun b u e _ => s b u e
theorem Sv.trans {H H1 H2 : Hp} (a : Sv H H1) (b : Sv H1 H2) : Sv H H2 := fun c u e n => b c u (a c u e n) n
theorem Keep.sv {H H' : Hp} {p : Addr} {xs : List V} (k : Keep p H H') (hp : H p = some (.lst xs)) : Sv H H' := fun b u e n => k b u e fun z => by
  rw [z, hp] at e
  exact n _ (Option.some.inj e).symm
theorem Has.sv {A : Ads} {H H' : Hp} (s : Sv H H') {v : V} {d : Dv} (h : Has A H v d) : Has A H' v d := by
  cases d with
  | obj n =>
    obtain ⟨a, dx, rfl, e⟩ := h
    exact ⟨a, dx, rfl, s _ _ e fun _ z => by cases z⟩
  | _ => exact h
def Hs (A : Ads) (H : Hp) : List V → List Dv → Prop
  | [], [] => True
  | v :: vs, d :: ds => Has A H v d ∧ Hs A H vs ds
  | _, _ => False
theorem Hs.imp {A : Ads} {H H' : Hp} (s : ∀ v d, Has A H v d → Has A H' v d) : ∀ {vs : List V} {ds : List Dv}, Hs A H vs ds → Hs A H' vs ds
  | [], [], _ => trivial
  | _ :: _, _ :: _, h => ⟨s _ _ h.1, Hs.imp s h.2⟩
  | [], _ :: _, h => h.elim
  | _ :: _, [], h => h.elim
theorem Hs.len {A : Ads} {H : Hp} : ∀ {vs : List V} {ds : List Dv}, Hs A H vs ds → vs.length = ds.length
  | [], [], _ => rfl
  | _ :: _, _ :: _, h => congrArg (· + 1) (Hs.len h.2)
  | [], _ :: _, h => h.elim
  | _ :: _, [], h => h.elim
theorem Hs.at {A : Ads} {H : Hp} : ∀ {vs : List V} {ds : List Dv} {i : Nat} {d : Dv}, Hs A H vs ds → ds[i]? = some d → ∃ v, vs[i]? = some v ∧ Has A H v d
  | _ :: _, _ :: _, 0, _, h, e => by
    simp at e
    exact ⟨_, rfl, e ▸ h.1⟩
  | _ :: _, _ :: _, i + 1, _, h, e => by
    simp at e
    obtain ⟨v, e1, e2⟩ := Hs.at h.2 e
    exact ⟨v, by simpa using e1, e2⟩
  | [], _ :: _, _, _, h, _ => h.elim
  | _ :: _, [], _, _, h, _ => h.elim
  | [], [], _, _, _, e => by simp at e
theorem Hs.app {A : Ads} {H : Hp} : ∀ {vs us : List V} {ds es : List Dv}, Hs A H vs ds → Hs A H us es → Hs A H (vs ++ us) (ds ++ es)
  | [], _, [], _, _, h => h
  | _ :: _, _, _ :: _, _, h, g => ⟨h.1, Hs.app h.2 g⟩
  | [], _, _ :: _, _, h, _ => h.elim
  | _ :: _, _, [], _, h, _ => h.elim
theorem Hs.rev {A : Ads} {H : Hp} : ∀ {vs : List V} {ds : List Dv}, Hs A H vs ds → Hs A H vs.reverse ds.reverse
  | [], [], _ => trivial
  | v :: vs, d :: ds, h => by
    rw [List.reverse_cons, List.reverse_cons]
    exact (Hs.rev h.2).app ⟨h.1, trivial⟩
  | [], _ :: _, h => h.elim
  | _ :: _, [], h => h.elim
theorem Hs.drop {A : Ads} {H : Hp} : ∀ {vs : List V} {ds : List Dv} (n : Nat), Hs A H vs ds → Hs A H (vs.drop n) (ds.drop n)
  | _, _, 0, h => by simpa using h
  | [], [], _ + 1, _ => trivial
  | _ :: _, _ :: _, n + 1, h => Hs.drop n h.2
  | [], _ :: _, _ + 1, h => h.elim
  | _ :: _, [], _ + 1, h => h.elim
theorem Hs.take {A : Ads} {H : Hp} : ∀ {vs : List V} {ds : List Dv} (n : Nat), Hs A H vs ds → Hs A H (vs.take n) (ds.take n)
  | _, _, 0, _ => by simp [Hs]
  | [], [], _ + 1, _ => trivial
  | _ :: _, _ :: _, n + 1, h => ⟨h.1, Hs.take n h.2⟩
  | [], _ :: _, _ + 1, h => h.elim
  | _ :: _, [], _ + 1, h => h.elim
/-! ### kinds -/
def dB : Dv → Bool
  | .bl _ => true
  | _ => false
def dI : Dv → Bool
  | .bl _ => true
  | .int _ => true
  | _ => false
def dS : Dv → Bool
  | .str _ => true
  | _ => false
def dR : Dv → Bool
  | .obj _ => true
  | _ => false
def tyD (A : Ads) : Dv → Value
  | .non => .type "NoneType"
  | .bl _ => .type "bool"
  | .int _ => .type "int"
  | .str _ => .type "str"
  | .obj _ => .ref A.Ref
section
variable {P : Program} {w : World} {K : PySem.W.Frag} {mg : Str → Option Value} {base : Heap} {A : Ads}
theorem has_ty (L : Lib P K mg A) {H : Hp} {v : V} {d : Dv} (h : Has A H v d) : TyX K H v (tyD A d) := by
  cases d with
  | non => cases h; exact .base .non
  | bl b => cases h; exact .base (.bl b)
  | int b => cases h; exact .base (.int b)
  | str b => cases h; exact .base (.str b)
  | obj n =>
    obtain ⟨a, dx, rfl, h⟩ := h
    exact L.c_Ref.ty h
theorem kit_bool (L : Lib P K mg A) (d : Dv) : PySem.W.kitOne K (tyD A d) (.type "bool") = some (dB d) := by
  cases d with
  | non => exact kit_ty (show kitB "NoneType" "bool" = some false by decide +kernel)
  | bl b => exact kit_ty (show kitB "bool" "bool" = some true by decide +kernel)
  | int b => exact kit_ty (show kitB "int" "bool" = some false by decide +kernel)
  | str b => exact kit_ty (show kitB "str" "bool" = some false by decide +kernel)
  | obj n => exact L.k_Ref_bool
theorem kit_int (L : Lib P K mg A) (d : Dv) : PySem.W.kitOne K (tyD A d) (.type "int") = some (dI d) := by
  cases d with
  | non => exact kit_ty (show kitB "NoneType" "int" = some false by decide +kernel)
  | bl b => exact kit_ty (show kitB "bool" "int" = some true by decide +kernel)
  | int b => exact kit_ty (show kitB "int" "int" = some true by decide +kernel)
  | str b => exact kit_ty (show kitB "str" "int" = some false by decide +kernel)
  | obj n => exact L.k_Ref_int
theorem kit_str (L : Lib P K mg A) (d : Dv) : PySem.W.kitOne K (tyD A d) (.type "str") = some (dS d) := by
  cases d with
  | non => exact kit_ty (show kitB "NoneType" "str" = some false by decide +kernel)
  | bl b => exact kit_ty (show kitB "bool" "str" = some false by decide +kernel)
  | int b => exact kit_ty (show kitB "int" "str" = some false by decide +kernel)
  | str b => exact kit_ty (show kitB "str" "str" = some true by decide +kernel)
  | obj n => exact L.k_Ref_str
theorem kit_R (L : Lib P K mg A) (d : Dv) : PySem.W.kitOne K (tyD A d) (.ref A.Ref) = some (dR d) := by
  cases d with
  | non => exact L.k_NoneType_Ref
  | bl b => exact L.k_bool_Ref
  | int b => exact L.k_int_Ref
  | str b => exact L.k_str_Ref
  | obj n => exact kit_self _
theorem kit_list_list {K : PySem.W.Frag} : PySem.W.kitOne K (.type "list") (.type "list") = some true := kit_ty (show kitB "list" "list" = some true by decide +kernel)
/-! ### Ref, Builtin -/
def spI1 (C : Addr) (n : Str) : Sp := fun vs H Q _ => ∃ a dx v, vs = [.ref a, v] ∧ H a = some (.ins C dx []) ∧ ∀ H', Keep a H H' → H' a = some (.ins C dx [(n, v)]) → Q .non H'
theorem ok_Ref_init (L : Lib P K mg A) : FnOk P w K mg base CX0 1 L.Ref_init.f L.Ref_init.fd ["self", "number"] (spI1 A.Ref "number") := by
  refine L.Ref_init.F.ok sc_Ref_init (fun vs H Q E h => ?_) (fun cdv A' outer s H vs Q E hr h => ?_)
  · obtain ⟨a, dx, v, rfl, _⟩ := h
    rfl
  · obtain ⟨a, dx, v, rfl, ha, q⟩ := h
    refine ⟨_, (pss_one (ps_fld (pv 0) (pv 1) rfl)), ?_⟩
    exact ⟨_, rfl, _, rfl, a, A.Ref, dx, [], rfl, ha, L.c_Ref.cl, L.n_Ref_number, (by show 0 < 1000; decide), q _ keep_upd upd_same⟩
def spERq (A : Ads) : Sp := fun vs H Q _ => ∃ a dx n y d, vs = [.ref a, y] ∧ H a = some (.ins A.Ref dx (refF n)) ∧ Has A H y d ∧ Q (.bl (decide (Dv.obj n = d))) H
theorem ok_Ref_eq (L : Lib P K mg A) : FnOk P w K mg base CX0 1 L.Ref_eq.f L.Ref_eq.fd ["self", "other"] (spERq A) := by
  refine L.Ref_eq.F.ok sc_Ref_eq (fun vs H Q E h => ?_) (fun cdv A' outer s H vs Q E hr h => ?_)
  · obtain ⟨a, dx, n, y, d, rfl, _⟩ := h
    rfl
  · obtain ⟨a, dx, n, y, d, rfl, ha, hy, q⟩ := h
    refine ⟨_, (pss_one (ps_ret (pe_and (pe_callB call_isi (by rfl) L.z_isinstance (by decide +kernel) (pa_cons (pv 1) (pa_cons (pe_gc (v := .ref A.Ref) (by rfl) ⟨_, L.c_Ref.g, rfl⟩) pa_nil))) (pe_one (pe_cmpR op_eq (pe_fld (pv 0) rfl) (pe_fld (pv 1) rfl) (nomark _)))))), ?_⟩
    refine ⟨_, rfl, y, .ref A.Ref, tyD A d, .ref A.Ref, dR d, rfl, .own _, has_ty L hy, kit_R L d, dR d, rfl, ?_⟩
    cases d with
    | obj m =>
      obtain ⟨b, dy, rfl, hb⟩ := hy
      refine iteT ⟨_, rfl, a, A.Ref, dx, _, _, rfl, ha, L.c_Ref.cl, L.n_Ref_number, lk_hit, _, rfl, b, A.Ref, dy, _, _, rfl, hb, L.c_Ref.cl, L.n_Ref_number, lk_hit, rfl, ?_⟩
      rw [show decide (V.int (n : Nat) = V.int (m : Nat)) = decide (Dv.obj n = Dv.obj m) by simp; omega]
      exact q
    | _ => exact iteF (by simpa using q)
/-- == of two values, of which either both are booleans or none is -/
def rEqM (A : Ads) : R2 := fun x y H Q => ∃ d e, Has A H x d ∧ Has A H y e ∧ dB d = dB e ∧ Q (.bl (decide (d = e))) H
theorem op_eqM {X : Cx} (L : Lib X.prog X.K X.mg A) (hr : Room 1 X.A) : OpR X (compareOp .Eq) (rEqM A) := by
  have FR : FnOk X.prog X.w X.K X.mg X.base CX0 1 L.Ref_eq.f L.Ref_eq.fd ["self", "other"] (spERq A) := ok_Ref_eq L
  intro pins s σ H x y v u Q I rx ry h
  obtain ⟨d, e, hd, he, hb, q⟩ := h
  have tyE : ∀ {z : V} {g : Dv}, Has A H z g → TyE H z (tyD A g) := by
    intro z g hz
    cases g with
    | non => cases hz; exact .non
    | bl b => cases hz; exact .bl b
    | int b => cases hz; exact .int b
    | str b => cases hz; exact .str b
    | obj n =>
      obtain ⟨a, dx, rfl, hz⟩ := hz
      exact .ins hz
  have nfR : dB e = false → PySem.W.notFirst X.K A.Ref (tyD A e) = true := by
    intro z
    cases e with
    | non => exact L.nf_Ref_NoneType
    | bl b => cases z
    | int b => exact L.nf_Ref_int
    | str b => exact L.nf_Ref_str
    | obj n => exact nf_self _
  cases hdd : d with
  | obj n =>
    subst hdd
    obtain ⟨a, dx, rfl, ha⟩ := hd
    exact op_eqL L.Ref_eq.m FR L.Ref_eq.b (E := E0) pass0 hr pins s σ H _ y v u Q I rx ry ⟨a, dx, _, _, rfl, ha, tyE he, nfR hb.symm, a, dx, n, y, e, rfl, ha, he, _, rfl, q⟩
  | _ =>
    subst hdd
    cases hee : e with
    | obj n =>
      subst hee
      obtain ⟨a, dx, rfl, ha⟩ := he
      first
        | (cases hb; done)
        | exact op_eqR L.Ref_eq.m FR L.Ref_eq.b (E := E0) pass0 hr L.su_Ref_NoneType L.su_Ref_int L.su_Ref_str pins s σ H _ _ v u Q I rx ry ⟨a, dx, _, rfl, ha, (by first | exact .inl hd | exact .inr (.inl ⟨_, hd⟩) | exact .inr (.inr ⟨_, hd⟩)), a, dx, n, _, _, rfl, ha, hd, _, rfl, by simpa [eq_comm] using q⟩
    | _ =>
      subst hee
      cases hd
      cases he
      first
        | (cases hb; done)
        | exact op_eq pins s σ H _ _ v u Q I rx ry ⟨(by rfl), by simpa using q⟩
end
end My
namespace My
open PySem L2 SX XT XS XE
open C8 (pss_cut tCut cutS_slice pe_gc)
def tabF (d : Addr) : List (Str × V) := [("_entries", .ref d)]
structure TblAt (P : Program) (w : World) (A : Ads) (H : Hp) (t : Addr) (d : Addr) (es : List Ent) : Prop where
  ins : ∃ dx, H t = some (.ins A.Table dx (tabF d))
  tab : XT.TabAt P w H d es
  vals : ∀ e ∈ es, ∃ q, e.2.2 = .ref q ∧ ∃ v, H q = some (.tup [e.1, v])
section
variable {P : Program} {w : World} {K : PySem.W.Frag} {mg : Str → Option Value} {base : Heap} {A : Ads}
theorem kit_bool_bool : PySem.W.kitOne K (.type "bool") (.type "bool") = some true := kit_ty (show kitB "bool" "bool" = some true by decide +kernel)
theorem kit_int_bool : PySem.W.kitOne K (.type "int") (.type "bool") = some false := kit_ty (show kitB "int" "bool" = some false by decide +kernel)
theorem kit_str_bool : PySem.W.kitOne K (.type "str") (.type "bool") = some false := kit_ty (show kitB "str" "bool" = some false by decide +kernel)
theorem kit_non_bool : PySem.W.kitOne K (.type "NoneType") (.type "bool") = some false := kit_ty (show kitB "NoneType" "bool" = some false by decide +kernel)
theorem units64 {A : Around} {k : Nat} (hr : Room k A) : A.units + 64 < cLine := hr.units
theorem tab_lk (d : Addr) : (tabF d).lookup ("_entries" : Str) = some (.ref d) := lk_hit
theorem tab_none {d : Addr} {n : Str} (h : (n == ("_entries" : Str)) = false) : (tabF d).lookup n = none := by
  simp [tabF, List.lookup, h]
theorem TblAt.same {H H' : Hp} {t d : Addr} {es : List Ent} (s : Same H H') (h : TblAt P w A H t d es) : TblAt P w A H' t d es := by
  obtain ⟨⟨dx, h1⟩, h2, h3⟩ := h
  refine ⟨⟨dx, s _ _ h1⟩, ⟨s _ _ h2.at_, fun e he => ⟨(h2.keys e he).1, s _ _ (h2.keys e he).2⟩, h2.len⟩, fun e he => ?_⟩
  obtain ⟨q, e1, v, e2⟩ := h3 e he
  exact ⟨q, e1, v, s _ _ e2⟩
def spTagged : Sp := fun vs H Q _ => ∃ k, vs = [k] ∧ keyOk k = true ∧ ∀ p, H p = none → Q (.ref p) (upd H p (.tup [.bl (isB k), k]))
theorem ok_tagged (L : Lib P K mg A) : FnOk P w K mg base CX0 1 L.tagged.f L.tagged.fd ["key"] spTagged := by
  refine L.tagged.F.ok sc_tagged (fun vs H Q E h => ?_) (fun cdv A' outer s H vs Q E hr h => ?_)
  · obtain ⟨k, rfl, _⟩ := h
    rfl
  · obtain ⟨k, rfl, hk, q⟩ := h
    refine ⟨_, (pss_one (ps_ret (pe_tup (pa_cons (pe_callB call_isi (by rfl) L.z_isinstance (by decide +kernel) (pa_cons (pv 0) (pa_cons (pe_bltn (v := .ty "bool") (by rfl) L.z_bool (by decide +kernel) rfl) pa_nil))) (pa_cons (pv 0) pa_nil))))), ?_⟩
    cases k with
    | non => exact ⟨_, rfl, _, .ty "bool", _, _, false, rfl, .ty _, .base .non, kit_non_bool, _, rfl, (by show 2 ≤ sizeLine; decide), fun p np => q p np⟩
    | bl b => exact ⟨_, rfl, _, .ty "bool", _, _, true, rfl, .ty _, .base (.bl b), kit_bool_bool, _, rfl, (by show 2 ≤ sizeLine; decide), fun p np => q p np⟩
    | int i => exact ⟨_, rfl, _, .ty "bool", _, _, false, rfl, .ty _, .base (.int i), kit_int_bool, _, rfl, (by show 2 ≤ sizeLine; decide), fun p np => q p np⟩
    | str x => exact ⟨_, rfl, _, .ty "bool", _, _, false, rfl, .ty _, .base (.str x), kit_str_bool, _, rfl, (by show 2 ≤ sizeLine; decide), fun p np => q p np⟩
    | _ => cases hk
def spTI (P : Program) (w : World) (A : Ads) : Sp := fun vs H Q _ => ∃ t dx, vs = [.ref t] ∧ H t = some (.ins A.Table dx []) ∧ ∀ H' d, Keep t H H' → H d = none → TblAt P w A H' t d [] → Q .non H'
theorem ok_Table_init (L : Lib P K mg A) : FnOk P w K mg base CX0 1 L.Table_init.f L.Table_init.fd ["self"] (spTI P w A) := by
  refine L.Table_init.F.ok sc_Table_init (fun vs H Q E h => ?_) (fun cdv A' outer s H vs Q E hr h => ?_)
  · obtain ⟨t, dx, rfl, _⟩ := h
    rfl
  · obtain ⟨t, dx, rfl, ha, q⟩ := h
    refine ⟨_, (pss_one (ps_fld (pv 0) pe_tnew rfl)), ?_⟩
    refine fun d nd => ⟨_, rfl, t, A.Table, dx, [], rfl, (by rw [upd_ne (ne_of_none ha nd)]; exact ha), L.c_Table.cl, L.n_Table__entries, (by show 0 < 1000; decide), ?_⟩
    have ntd : d ≠ t := fun z => by rw [z, ha] at nd; cases nd
    refine q _ d (fun b o e n => by rw [upd_ne n, upd_ne (ne_of_none e nd)]; exact e) nd ⟨⟨dx, upd_same⟩, ⟨by rw [upd_ne ntd, upd_same]; rfl, (fun e he => nomatch he), Nat.zero_le _⟩, (fun e he => nomatch he)⟩
/-- only new things were made -/
def spTHas (P : Program) (w : World) (A : Ads) : Sp := fun vs H Q _ => ∃ t d es k, vs = [.ref t, k] ∧ TblAt P w A H t d es ∧ keyOk k = true ∧ ∀ H', Same H H' → Q (.bl (valT es k).isSome) H'
theorem ok_Table_has (L : Lib P K mg A) : FnOk P w K mg base CX0 2 L.Table_has.f L.Table_has.fd ["self", "key"] (spTHas P w A) := by
  have G_tagged : FnOk P w K mg base CX0 1 L.tagged.f L.tagged.fd ["key"] spTagged := ok_tagged L
  refine L.Table_has.F.ok sc_Table_has (fun vs H Q E h => ?_) (fun cdv A' outer s H vs Q E hr h => ?_)
  · obtain ⟨t, d, es, k, rfl, _⟩ := h
    rfl
  · obtain ⟨t, d, es, k, rfl, T, hk, q⟩ := h
    refine ⟨_, (pss_one (ps_ret (pe_cmp (pc_tin (units64 hr) (pe_call G_tagged (hr.mono (by omega)) (by rfl) L.tagged.g L.tagged.F.kp L.tagged.b .nil pass0 (pa_cons (pv 1) pa_nil)) (pe_fld (pv 0) rfl))))), ?_⟩
    refine ⟨_, rfl, k, rfl, hk, fun p np => ?_⟩
    have u1 := same_upd (o := .tup [.bl (isB k), k]) np
    obtain ⟨⟨dx, h1⟩, h2, h3⟩ := T.same u1
    exact ⟨_, rfl, t, A.Table, dx, _, _, rfl, h1, L.c_Table.cl, L.n_Table__entries, tab_lk d, d, p, k, es, rfl, rfl, h2, ⟨hk, upd_same⟩, q _ u1⟩
def spTPut (P : Program) (w : World) (A : Ads) : Sp := fun vs H Q _ => ∃ t d es k v, vs = [.ref t, k, v] ∧ TblAt P w A H t d es ∧ keyOk k = true ∧ es.length < 1000000 ∧
  ∀ H' b q, Keep d H H' → TblAt P w A H' t d (putT es k b (.ref q)) → H' q = some (.tup [k, v]) → H q = none → Q .non H'
theorem ok_Table_put (L : Lib P K mg A) : FnOk P w K mg base CX0 2 L.Table_put.f L.Table_put.fd ["self", "key", "value"] (spTPut P w A) := by
  have G_tagged : FnOk P w K mg base CX0 1 L.tagged.f L.tagged.fd ["key"] spTagged := ok_tagged L
  refine L.Table_put.F.ok sc_Table_put (fun vs H Q E h => ?_) (fun cdv A' outer s H vs Q E hr h => ?_)
  · obtain ⟨t, d, es, k, v, rfl, _⟩ := h
    rfl
  · obtain ⟨t, d, es, k, v, rfl, T, hk, hl, kk⟩ := h
    refine ⟨_, (pss_one (ps_tput (units64 hr) (pe_fld (pv 0) rfl) (pe_call G_tagged (hr.mono (by omega)) (by rfl) L.tagged.g L.tagged.F.kp L.tagged.b .nil pass0 (pa_cons (pv 1) pa_nil)) (pe_tup (pa_cons (pv 1) (pa_cons (pv 2) pa_nil))) (by rfl))), ?_⟩
    refine ⟨_, rfl, _, rfl, (by show 2 ≤ sizeLine; decide), fun q nq => ?_⟩
    have u1 := same_upd (o := .tup [k, v]) nq
    obtain ⟨⟨dx, h1⟩, h2, h3⟩ := T.same u1
    refine ⟨_, rfl, t, A.Table, dx, _, _, rfl, h1, L.c_Table.cl, L.n_Table__entries, tab_lk d, _, rfl, k, rfl, hk, fun p np => ?_⟩
    have u2 := same_upd (o := .tup [.bl (isB k), k]) np
    obtain ⟨⟨dx2, g1⟩, g2, g3⟩ := (T.same u1).same u2
    refine ⟨d, p, k, es, rfl, rfl, g2, ⟨hk, upd_same⟩, ?_⟩
    have ntd : t ≠ d := fun z => by rw [z, g2.at_] at g1; cases g1
    have nqd : q ≠ d := fun z => by rw [z] at nq; rw [T.tab.at_] at nq; cases nq
    have hq2 := u2 _ _ (upd_same (H := H) (a := q) (o := .tup [k, v]))
    refine kk _ p q (fun b o e n => by rw [upd_ne n]; exact u2 _ _ (u1 _ _ e)) ⟨⟨dx2, by rw [upd_ne ntd]; exact g1⟩, g2.put ⟨hk, upd_same⟩ hl, fun e he => ?_⟩ (by rw [upd_ne nqd]; exact hq2) nq
    have old : ∀ e ∈ es, ∃ q', e.2.2 = .ref q' ∧ ∃ v', (upd (upd (upd H q (.tup [k, v])) p (.tup [.bl (isB k), k])) d (TabO P w d (putT es k p (.ref q)))) q' = some (.tup [e.1, v']) := fun e he => by
      obtain ⟨q', e1, v', e2⟩ := g3 e he
      exact ⟨q', e1, v', by rw [upd_ne (fun z => by rw [z, g2.at_] at e2; cases e2)]; exact e2⟩
    unfold putT at he
    split at he
    · obtain ⟨e0, h0, ee⟩ := List.mem_map.mp he
      split at ee
      · rename_i hk0
        subst ee
        exact ⟨q, rfl, v, by rw [upd_ne nqd, hk0]; exact hq2⟩
      · subst ee
        exact old e0 h0
    · rcases List.mem_append.mp he with he | he
      · exact old e he
      · rw [List.mem_singleton] at he
        subst he
        exact ⟨q, rfl, v, by rw [upd_ne nqd]; exact hq2⟩
def spTPairs (P : Program) (w : World) (A : Ads) : Sp := fun vs H Q _ => ∃ t d es, vs = [.ref t] ∧ TblAt P w A H t d es ∧ ∀ H' l, Same H H' → H l = none → H' l = some (.lst (es.map (·.2.2))) → Q (.ref l) H'
theorem ok_Table_pairs (L : Lib P K mg A) : FnOk P w K mg base CX0 1 L.Table_pairs.f L.Table_pairs.fd ["self"] (spTPairs P w A) := by
  refine L.Table_pairs.F.ok sc_Table_pairs (fun vs H Q E h => ?_) (fun cdv A' outer s H vs Q E hr h => ?_)
  · obtain ⟨t, d, es, rfl, _⟩ := h
    rfl
  · obtain ⟨t, d, es, rfl, T, kk⟩ := h
    refine ⟨_, (pss_one (ps_ret (pe_callTy (call_list_vals rfl) (by rfl) L.z_list (by decide +kernel) (pa_cons (pe_tvals (pe_fld (pv 0) rfl)) pa_nil)))), ?_⟩
    obtain ⟨⟨dx, h1⟩, h2, h3⟩ := id T
    refine ⟨_, rfl, t, A.Table, dx, _, _, rfl, h1, L.c_Table.cl, L.n_Table__entries, tab_lk d, d, es, rfl, h2, fun v nv => ?_⟩
    have u1 := same_upd (o := ViewO d v) nv
    refine ⟨v, d, es, rfl, upd_same, (T.same u1).tab, fun l nl => ?_⟩
    have u2 := same_upd (o := .lst (es.map (·.2.2))) nl
    refine kk _ l (u1.trans u2) ?_ upd_same
    cases e : H l with
    | none => rfl
    | some o =>
      rw [u1 _ _ e] at nl
      cases nl
def spTMany (P : Program) (w : World) (A : Ads) : Sp := fun vs H Q _ => ∃ t d es, vs = [.ref t] ∧ TblAt P w A H t d es ∧ Q (.int (es.length : Nat)) H
theorem ok_Table_many (L : Lib P K mg A) : FnOk P w K mg base CX0 1 L.Table_many.f L.Table_many.fd ["self"] (spTMany P w A) := by
  refine L.Table_many.F.ok sc_Table_many (fun vs H Q E h => ?_) (fun cdv A' outer s H vs Q E hr h => ?_)
  · obtain ⟨t, d, es, rfl, _⟩ := h
    rfl
  · obtain ⟨t, d, es, rfl, T, kk⟩ := h
    refine ⟨_, (pss_one (ps_ret (pe_callB call_len_tab (by rfl) L.z_len PySem.boot_len (pa_cons (pe_fld (pv 0) rfl) pa_nil)))), ?_⟩
    obtain ⟨⟨dx, h1⟩, h2, h3⟩ := id T
    exact ⟨_, rfl, t, A.Table, dx, _, _, rfl, h1, L.c_Table.cl, L.n_Table__entries, tab_lk d, d, es, rfl, h2, kk⟩
end
end My
namespace My
open PySem L2 SX XT XS XE
open C8 (pss_cut tCut cutS_slice pe_gc)
/-! ### things -/
def toV : Dv → V
  | .non => .non
  | .bl b => .bl b
  | .int i => .int i
  | .str x => .str x
  | _ => .non
def keyD : Dv → Bool
  | .obj _ => false
  | _ => true
theorem has_key {A : Ads} {H : Hp} {v : V} {d : Dv} (h : Has A H v d) (k : keyD d = true) : v = toV d ∧ keyOk v = true := by
  cases d with
  | obj n => cases k
  | _ => cases h; exact ⟨rfl, rfl⟩
theorem key_has {A : Ads} {H : Hp} {d : Dv} (k : keyD d = true) : Has A H (toV d) d := by
  cases d with
  | obj n => cases k
  | _ => rfl
theorem key_ok {d : Dv} (k : keyD d = true) : keyOk (toV d) = true := by
  cases d with
  | obj n => cases k
  | _ => rfl
theorem toV_inj {d e : Dv} (hd : keyD d = true) (he : keyD e = true) (h : toV d = toV e) : d = e := by
  cases d <;> cases e <;> first | rfl | (cases hd; done) | (cases he; done) | (cases h; rfl) | (cases h; done)
def Ents (A : Ads) (H : Hp) : List Ent → List (Dv × Dv) → Prop
  | [], [] => True
  | e :: es, p :: ps => (keyD p.1 = true ∧ e.1 = toV p.1 ∧ ∃ q v, e.2.2 = .ref q ∧ H q = some (.tup [e.1, v]) ∧ Has A H v p.2) ∧ Ents A H es ps
  | _, _ => False
inductive Th where
  | parts (ds : List Dv)
  | table (es : List (Dv × Dv))
  | inst (o : Dv) (ns : List (Str × Dv))
  | kin (nm : Str) (par : Dv) (ms : List (Str × Dv))
def Nmd (A : Ads) (H : Hp) : List (Key × V) → List (Str × Dv) → Prop
  | [], [] => True
  | e :: es, p :: ps => (e.1 = .inr p.1 ∧ Has A H e.2 p.2) ∧ Nmd A H es ps
  | _, _ => False
def kinF (nm : Str) (v : V) (m : Addr) : List (Str × V) := [("name", .str nm), ("parent", v), ("methods", .ref m)]
def insF (v : V) (m : Addr) : List (Str × V) := [("owner", v), ("named", .ref m)]
def ThAt (P : Program) (w : World) (A : Ads) (H : Hp) (x m : Addr) : Th → Prop
  | .parts ds => ∃ dx vs, H x = some (.ins A.Parts dx [("held", .ref m)]) ∧ H m = some (.lst vs) ∧ Hs A H vs ds
  | .table es => ∃ ents, TblAt P w A H x m ents ∧ Ents A H ents es ∧ (es.map Prod.fst).Nodup ∧ es.length ≤ 1000
  | .inst o ns => ∃ dx v kvs, H x = some (.ins A.Instance dx (insF v m)) ∧ Has A H v o ∧ H m = some (.dK kvs) ∧ Nmd A H kvs ns
  | .kin nm par ms => ∃ dx v kvs, H x = some (.ins A.Kin dx (kinF nm v m)) ∧ Has A H v par ∧ H m = some (.dK kvs) ∧ Nmd A H kvs ms
theorem Ents.imp {A : Ads} {H H' : Hp} (s : ∀ v d, Has A H v d → Has A H' v d) (t : ∀ q xs, H q = some (.tup xs) → H' q = some (.tup xs)) : ∀ {es : List Ent} {ps : List (Dv × Dv)}, Ents A H es ps → Ents A H' es ps
  | [], [], _ => trivial
  | _ :: _, _ :: _, ⟨⟨k, e, q, v, h1, h2, h3⟩, r⟩ => ⟨⟨k, e, q, v, h1, t _ _ h2, s _ _ h3⟩, Ents.imp s t r⟩
  | [], _ :: _, h => h.elim
  | _ :: _, [], h => h.elim
theorem Nmd.imp {A : Ads} {H H' : Hp} (s : ∀ v d, Has A H v d → Has A H' v d) : ∀ {es : List (Key × V)} {ps : List (Str × Dv)}, Nmd A H es ps → Nmd A H' es ps
  | [], [], _ => trivial
  | _ :: _, _ :: _, h => ⟨⟨h.1.1, s _ _ h.1.2⟩, Nmd.imp s h.2⟩
  | [], _ :: _, h => h.elim
  | _ :: _, [], h => h.elim
/-- values and tuples stay -/
structure Vk (A : Ads) (H H' : Hp) : Prop where
  v : ∀ v d, Has A H v d → Has A H' v d
  t : ∀ q xs, H q = some (.tup xs) → H' q = some (.tup xs)
theorem Sv.vk {A : Ads} {H H' : Hp} (s : Sv H H') : Vk A H H' := ⟨fun _ _ h => h.sv s, fun q xs e => s _ _ e fun _ z => by cases z⟩
theorem Vk.trans {A : Ads} {H H1 H2 : Hp} (a : Vk A H H1) (b : Vk A H1 H2) : Vk A H H2 := ⟨fun v d h => b.v v d (a.v v d h), fun q xs h => b.t q xs (a.t q xs h)⟩
theorem Vk.rfl' {A : Ads} {H : Hp} : Vk A H H := ⟨fun _ _ h => h, fun _ _ h => h⟩
section
variable {P : Program} {w : World} {K : PySem.W.Frag} {mg : Str → Option Value} {base : Heap} {A : Ads}
theorem ThAt.imp {H H' : Hp} (k : Vk A H H') {x m : Addr} {th : Th} (hx : ∀ u, H x = some u → H' x = some u) (hm : ∀ u, H m = some u → H' m = some u) (h : ThAt P w A H x m th) : ThAt P w A H' x m th := by
  cases th with
  | parts ds =>
    obtain ⟨dx, vs, h1, h2, h3⟩ := h
    exact ⟨dx, vs, hx _ h1, hm _ h2, h3.imp k.v⟩
  | table es =>
    obtain ⟨ents, ⟨⟨dx, h1⟩, h2, h3⟩, h4, h5⟩ := h
    refine ⟨ents, ⟨⟨dx, hx _ h1⟩, ⟨hm _ h2.at_, fun e he => ⟨(h2.keys e he).1, k.t _ _ (h2.keys e he).2⟩, h2.len⟩, fun e he => ?_⟩, h4.imp k.v k.t, h5⟩
    obtain ⟨q, e1, v, e2⟩ := h3 e he
    exact ⟨q, e1, v, k.t _ _ e2⟩
  | inst o ns =>
    obtain ⟨dx, v, kvs, h1, h2, h3, h4⟩ := h
    exact ⟨dx, v, kvs, hx _ h1, k.v _ _ h2, hm _ h3, h4.imp k.v⟩
  | kin nm par ms =>
    obtain ⟨dx, v, kvs, h1, h2, h3, h4⟩ := h
    exact ⟨dx, v, kvs, hx _ h1, k.v _ _ h2, hm _ h3, h4.imp k.v⟩
def clsT (A : Ads) : Th → Addr
  | .parts _ => A.Parts
  | .table _ => A.Table
  | .inst _ _ => A.Instance
  | .kin _ _ _ => A.Kin
theorem ThAt.x {H : Hp} {x m : Addr} {th : Th} (h : ThAt P w A H x m th) : ∃ dx fs, H x = some (.ins (clsT A th) dx fs) := by
  cases th with
  | parts ds => obtain ⟨dx, vs, h1, _⟩ := h; exact ⟨_, _, h1⟩
  | table es => obtain ⟨ents, ⟨⟨dx, h1⟩, _, _⟩, _⟩ := h; exact ⟨_, _, h1⟩
  | inst o ns => obtain ⟨dx, v, kvs, h1, _⟩ := h; exact ⟨_, _, h1⟩
  | kin nm par ms => obtain ⟨dx, v, kvs, h1, _⟩ := h; exact ⟨_, _, h1⟩
theorem ThAt.m {H : Hp} {x m : Addr} {th : Th} (h : ThAt P w A H x m th) : ∃ u, H m = some u ∧ (∀ C dx fs, u ≠ .ins C dx fs) ∧ ∀ xs, u ≠ .tup xs := by
  cases th with
  | parts ds => obtain ⟨dx, vs, _, h1, _⟩ := h; exact ⟨_, h1, nofun, nofun⟩
  | table es => obtain ⟨ents, ⟨_, h2, _⟩, _⟩ := h; exact ⟨_, h2.at_, nofun, nofun⟩
  | inst o ns => obtain ⟨dx, v, kvs, _, _, h1, _⟩ := h; exact ⟨_, h1, nofun, nofun⟩
  | kin nm par ms => obtain ⟨dx, v, kvs, _, _, h1, _⟩ := h; exact ⟨_, h1, nofun, nofun⟩
theorem clsT_ne (L : Lib P K mg A) (th : Th) : clsT A th ≠ A.Ref ∧ clsT A th ≠ A.Ref := by
  cases th with
  | parts ds => exact ⟨ne_cls L.k_Parts_Ref, ne_cls L.k_Parts_Ref⟩
  | table es => exact ⟨ne_cls L.k_Table_Ref, ne_cls L.k_Table_Ref⟩
  | inst o ns => exact ⟨ne_cls L.k_Instance_Ref, ne_cls L.k_Instance_Ref⟩
  | kin nm par ms => exact ⟨ne_cls L.k_Kin_Ref, ne_cls L.k_Kin_Ref⟩
/-! ### the store -/
structure St where
  things : List Th
  out : List Str
  lines : List Str
  taken : Nat
def stF (t o l : Addr) (n : Nat) : List (Str × V) := [("things", .ref t), ("output", .ref o), ("lines", .ref l), ("taken", .int (n : Nat))]
theorem st_things (t o l : Addr) (n : Nat) : (stF t o l n).lookup ("things" : Str) = some (.ref t) := lk_hit
theorem st_output (t o l : Addr) (n : Nat) : (stF t o l n).lookup ("output" : Str) = some (.ref o) := by
  unfold stF
  rw [lk_skip (by decide +kernel)]
  exact lk_hit
theorem st_lines (t o l : Addr) (n : Nat) : (stF t o l n).lookup ("lines" : Str) = some (.ref l) := by
  unfold stF
  rw [lk_skip (by decide +kernel), lk_skip (by decide +kernel)]
  exact lk_hit
theorem st_taken (t o l : Addr) (n : Nat) : (stF t o l n).lookup ("taken" : Str) = some (.int (n : Nat)) := by
  unfold stF
  rw [lk_skip (by decide +kernel), lk_skip (by decide +kernel), lk_skip (by decide +kernel)]
  exact lk_hit
theorem st_no {n : Str} (t o l : Addr) (k : Nat) (h1 : (n == ("things" : Str)) = false) (h2 : (n == ("output" : Str)) = false) (h3 : (n == ("lines" : Str)) = false) (h4 : (n == ("taken" : Str)) = false) : (stF t o l k).lookup n = none := by
  unfold stF
  rw [lk_skip h1, lk_skip h2, lk_skip h3, lk_skip h4]
  rfl
/-- the addresses of a store -/
structure Sa where
  s : Addr
  t : Addr
  o : Addr
  l : Addr
  X : List Addr
  M : List Addr
def Sa.own (a : Sa) (b : Addr) : Prop := b = a.s ∨ b = a.t ∨ b = a.o ∨ b = a.l ∨ b ∈ a.X ∨ b ∈ a.M
structure SM (P : Program) (w : World) (A : Ads) (H : Hp) (a : Sa) (S : St) : Prop where
  s_ : ∃ dx, H a.s = some (.ins A.Store dx (stF a.t a.o a.l S.taken))
  t_ : H a.t = some (.lst (a.X.map V.ref))
  o_ : H a.o = some (.lst (S.out.map V.str))
  l_ : H a.l = some (.lst (S.lines.map V.str))
  lx : a.X.length = S.things.length
  lm : a.M.length = S.things.length
  th : ∀ (i : Nat) x m d, a.X[i]? = some x → a.M[i]? = some m → S.things[i]? = some d → ThAt P w A H x m d
  nd : (a.t :: a.o :: a.l :: a.M).Nodup
  nx : a.X.Nodup
theorem SM.get {H : Hp} {a : Sa} {S : St} (h : SM P w A H a S) {i : Nat} {d : Th} (e : S.things[i]? = some d) : ∃ x m, a.X[i]? = some x ∧ a.M[i]? = some m ∧ ThAt P w A H x m d := by
  have hi := (List.getElem?_eq_some_iff.mp e).1
  have h1 : i < a.X.length := by rw [h.lx]; exact hi
  have h2 : i < a.M.length := by rw [h.lm]; exact hi
  exact ⟨a.X[i], a.M[i], List.getElem?_eq_getElem h1, List.getElem?_eq_getElem h2, h.th i _ _ d (List.getElem?_eq_getElem h1) (List.getElem?_eq_getElem h2) e⟩
theorem SM.xs {H : Hp} {a : Sa} {S : St} (h : SM P w A H a S) {x : Addr} (e : x ∈ a.X) : ∃ th m, ThAt P w A H x m th := by
  obtain ⟨i, hi, e⟩ := List.getElem_of_mem e
  have h1 : i < S.things.length := by rw [← h.lx]; exact hi
  obtain ⟨x', m, e1, e2, t⟩ := h.get (List.getElem?_eq_getElem h1)
  rw [List.getElem?_eq_getElem hi] at e1
  cases e1
  rw [e] at t
  exact ⟨_, m, t⟩
theorem SM.ms {H : Hp} {a : Sa} {S : St} (h : SM P w A H a S) {m : Addr} (e : m ∈ a.M) : ∃ th x, ThAt P w A H x m th := by
  obtain ⟨i, hi, e⟩ := List.getElem_of_mem e
  have h1 : i < S.things.length := by rw [← h.lm]; exact hi
  obtain ⟨x, m', e1, e2, t⟩ := h.get (List.getElem?_eq_getElem h1)
  rw [List.getElem?_eq_getElem hi] at e2
  cases e2
  rw [e] at t
  exact ⟨_, x, t⟩
/-- no value is the store's own -/
theorem SM.nv {H : Hp} {a : Sa} {S : St} (L : Lib P K mg A) (h : SM P w A H a S) {b : Addr} (hb : a.own b) : ∃ u, H b = some u ∧ (∀ dx fs, u ≠ .ins A.Ref dx fs) ∧ (∀ dx fs, u ≠ .ins A.Ref dx fs) ∧ ∀ xs, u ≠ .tup xs := by
  rcases hb with rfl | rfl | rfl | rfl | hb | hb
  · obtain ⟨dx, e⟩ := h.s_
    refine ⟨_, e, fun _ _ z => ?_, fun _ _ z => ?_, nofun⟩
    · injection z with z; exact ne_cls L.k_Store_Ref z
    · injection z with z; exact ne_cls L.k_Store_Ref z
  · exact ⟨_, h.t_, nofun, nofun, nofun⟩
  · exact ⟨_, h.o_, nofun, nofun, nofun⟩
  · exact ⟨_, h.l_, nofun, nofun, nofun⟩
  · obtain ⟨th, m, t⟩ := h.xs hb
    obtain ⟨dx, fs, e⟩ := t.x
    refine ⟨_, e, fun _ _ z => ?_, fun _ _ z => ?_, nofun⟩
    · injection z with z; exact (clsT_ne L th).1 z
    · injection z with z; exact (clsT_ne L th).2 z
  · obtain ⟨th, x, t⟩ := h.ms hb
    obtain ⟨u, e, h1, h2⟩ := t.m
    exact ⟨u, e, fun _ _ => h1 _ _ _, fun _ _ => h1 _ _ _, h2⟩
/-- what is not the store's own stays -/
def Fr (a : Sa) (H H' : Hp) : Prop := ∀ b u, H b = some u → ¬ a.own b → H' b = some u
theorem Fr.vk {H H' : Hp} {a : Sa} {S : St} (L : Lib P K mg A) (h : SM P w A H a S) (f : Fr a H H') : Vk A H H' := by
  have no : ∀ b, (∃ dx fs, H b = some (.ins A.Ref dx fs)) ∨ (∃ dx fs, H b = some (.ins A.Ref dx fs)) ∨ (∃ xs, H b = some (.tup xs)) → ¬ a.own b := fun b e ho => by
    obtain ⟨u, e1, n1, n2, n3⟩ := h.nv L ho
    rcases e with ⟨dx, fs, e⟩ | ⟨dx, fs, e⟩ | ⟨xs, e⟩
    · exact n1 _ _ (Option.some.inj (e1.symm.trans e))
    · exact n2 _ _ (Option.some.inj (e1.symm.trans e))
    · exact n3 _ (Option.some.inj (e1.symm.trans e))
  refine ⟨fun v d hv => ?_, fun q xs e => f _ _ e (no _ (.inr (.inr ⟨_, e⟩)))⟩
  cases d with
  | obj n =>
    obtain ⟨b, dx, rfl, e⟩ := hv
    exact ⟨b, dx, rfl, f _ _ e (no _ (.inl ⟨_, _, e⟩))⟩
  | _ => exact hv
theorem SM.imp {H H' : Hp} {a : Sa} {S : St} (h : SM P w A H a S) (k : Vk A H H') (ho : ∀ b u, a.own b → H b = some u → H' b = some u) : SM P w A H' a S := by
  obtain ⟨dx, e⟩ := h.s_
  exact ⟨⟨dx, ho _ _ (.inl rfl) e⟩, ho _ _ (.inr (.inl rfl)) h.t_, ho _ _ (.inr (.inr (.inl rfl))) h.o_, ho _ _ (.inr (.inr (.inr (.inl rfl)))) h.l_, h.lx, h.lm,
    fun i x m d e1 e2 e3 => (h.th i x m d e1 e2 e3).imp k (fun u => ho _ u (.inr (.inr (.inr (.inr (.inl (List.mem_of_getElem? e1))))))) (fun u => ho _ u (.inr (.inr (.inr (.inr (.inr (List.mem_of_getElem? e2))))))), h.nd, h.nx⟩
theorem SM.same {H H' : Hp} {a : Sa} {S : St} (h : SM P w A H a S) (s : Same H H') : SM P w A H' a S := h.imp (Same.sv s).vk fun b u _ e => s b u e
theorem SM.keep {H H' : Hp} {a : Sa} {S : St} {p : Addr} {xs : List V} (h : SM P w A H a S) (k : Keep p H H') (hp : H p = some (.lst xs)) (np : ¬ a.own p) : SM P w A H' a S := h.imp (Keep.sv k hp).vk fun b u ho e => k b u e fun z => np (z ▸ ho)
theorem nodup_get {α : Type} : ∀ {l : List α} {i j : Nat} {x : α}, l.Nodup → l[i]? = some x → l[j]? = some x → i = j
  | [], _, _, _, _, h, _ => by simp at h
  | a :: l, 0, 0, _, _, _, _ => rfl
  | a :: l, 0, j + 1, x, n, h, g => by
    simp at h g
    subst h
    exact absurd (List.mem_of_getElem? g) (List.nodup_cons.mp n).1
  | a :: l, i + 1, 0, x, n, h, g => by
    simp at h g
    subst g
    exact absurd (List.mem_of_getElem? h) (List.nodup_cons.mp n).1
  | a :: l, i + 1, j + 1, x, n, h, g => by
    simp at h g
    rw [nodup_get (List.nodup_cons.mp n).2 h g]
/-- the part m of a thing is written -/
theorem SM.setM {H : Hp} {a : Sa} {S : St} {i : Nat} {x m : Addr} {u : HO} {d : Th} (h : SM P w A H a S) (hX : a.X[i]? = some x) (hM : a.M[i]? = some m) (k : Vk A H (upd H m u)) (hd : ThAt P w A (upd H m u) x m d) :
    SM P w A (upd H m u) a { S with things := S.things.set i d } := by
  have mm := List.mem_of_getElem? hM
  have hm3 : m ≠ a.t ∧ m ≠ a.o ∧ m ≠ a.l := by
    have := h.nd
    simp only [List.nodup_cons, List.mem_cons, not_or] at this
    exact ⟨fun z => this.1.2.2 (z ▸ mm), fun z => this.2.1.2 (z ▸ mm), fun z => this.2.2.1 (z ▸ mm)⟩
  have hMn : a.M.Nodup := by
    have := h.nd
    simp only [List.nodup_cons] at this
    exact this.2.2.2
  obtain ⟨tm, xm, hmt⟩ := h.ms mm
  obtain ⟨um, hum, hni, _⟩ := hmt.m
  have nins : ∀ {b : Addr} {C dx : Addr} {fs : List (Str × V)}, H b = some (.ins C dx fs) → b ≠ m := fun e z => by
    rw [z, hum] at e
    exact hni _ _ _ (Option.some.inj e)
  obtain ⟨dx, e⟩ := h.s_
  refine ⟨⟨dx, by rw [upd_ne (nins e)]; exact e⟩, by rw [upd_ne hm3.1.symm]; exact h.t_, by rw [upd_ne hm3.2.1.symm]; exact h.o_, by rw [upd_ne hm3.2.2.symm]; exact h.l_, by rw [List.length_set]; exact h.lx, by rw [List.length_set]; exact h.lm, ?_, h.nd, h.nx⟩
  intro j x' m' d' e1 e2 e3
  by_cases hij : i = j
  · subst hij
    rw [hX] at e1
    rw [hM] at e2
    cases e1
    cases e2
    rw [List.getElem?_set] at e3
    split at e3
    · split at e3
      · cases e3; exact hd
      · cases e3
    · rename_i z; exact absurd rfl z
  · rw [List.getElem?_set_ne hij] at e3
    have t := h.th j x' m' d' e1 e2 e3
    refine t.imp k (fun u' e => ?_) (fun u' e => ?_)
    · obtain ⟨dx', fs', ex⟩ := t.x
      rw [upd_ne (nins ex)]
      exact e
    · have hne : m' ≠ m := fun z => by
        rw [z] at e2
        exact hij (nodup_get hMn hM e2)
      rw [upd_ne hne]
      exact e
/-- a thing more -/
theorem SM.push {H : Hp} {a : Sa} {S : St} {x m : Addr} {d : Th} (h : SM P w A H a S) (hd : ThAt P w A H x m d) (nx : x ∉ a.X) (nm : m ∉ a.t :: a.o :: a.l :: a.M) :
    SM P w A (upd H a.t (.lst ((a.X ++ [x]).map V.ref))) { a with X := a.X ++ [x], M := a.M ++ [m] } { S with things := S.things ++ [d] } := by
  have sv : Sv H (upd H a.t (.lst ((a.X ++ [x]).map V.ref))) := fun b u e n => by
    rw [upd_ne fun z => by rw [z, h.t_] at e; exact n _ (Option.some.inj e).symm]
    exact e
  have n3 := h.nd
  simp only [List.nodup_cons, List.mem_cons, not_or] at n3
  simp only [List.mem_cons, not_or] at nm
  have hnt : ∀ {b : Addr} {C dx : Addr} {fs : List (Str × V)}, H b = some (.ins C dx fs) → b ≠ a.t := fun e z => by
    rw [z, h.t_] at e
    cases e
  obtain ⟨dx, e⟩ := h.s_
  refine ⟨⟨dx, by rw [upd_ne (hnt e)]; exact e⟩, upd_same, by rw [upd_ne (fun z => n3.1.1 z.symm)]; exact h.o_, by rw [upd_ne (fun z => n3.1.2.1 z.symm)]; exact h.l_, by simp [h.lx], by simp [h.lm], ?_, ?_, ?_⟩
  · intro i x' m' d' e1 e2 e3
    have up : ∀ {x m : Addr} {d : Th}, ThAt P w A H x m d → m ≠ a.t → ThAt P w A (upd H a.t (.lst ((a.X ++ [x]).map V.ref))) x m d → True := fun _ _ _ => trivial
    have go : ∀ {y n : Addr} {g : Th}, ThAt P w A H y n g → n ≠ a.t → ThAt P w A (upd H a.t (.lst ((a.X ++ [x]).map V.ref))) y n g := fun {y n g} t hn => by
      obtain ⟨dy, fs, ey⟩ := t.x
      exact t.imp sv.vk (fun u e => by rw [upd_ne (hnt ey)]; exact e) (fun u e => by rw [upd_ne hn]; exact e)
    by_cases hi : i < S.things.length
    · have e1' : a.X[i]? = some x' := by
        have e1 : (a.X ++ [x])[i]? = some x' := e1
        rw [List.getElem?_append_left (by rw [h.lx]; exact hi)] at e1
        exact e1
      have e2' : a.M[i]? = some m' := by
        have e2 : (a.M ++ [m])[i]? = some m' := e2
        rw [List.getElem?_append_left (by rw [h.lm]; exact hi)] at e2
        exact e2
      have e3' : S.things[i]? = some d' := by
        have e3 : (S.things ++ [d])[i]? = some d' := e3
        rw [List.getElem?_append_left hi] at e3
        exact e3
      exact go (h.th i x' m' d' e1' e2' e3') fun z => n3.1.2.2 (z ▸ List.mem_of_getElem? e2')
    · have hl := (List.getElem?_eq_some_iff.mp e3).1
      rw [List.length_append, List.length_singleton] at hl
      have hi' : i = S.things.length := by omega
      subst hi'
      have e1 : (a.X ++ [x])[S.things.length]? = some x' := e1
      have e2 : (a.M ++ [m])[S.things.length]? = some m' := e2
      have e3 : (S.things ++ [d])[S.things.length]? = some d' := e3
      rw [← h.lx, List.getElem?_append_right (Nat.le_refl _), Nat.sub_self] at e1
      rw [← h.lm, List.getElem?_append_right (Nat.le_refl _), Nat.sub_self] at e2
      rw [List.getElem?_append_right (Nat.le_refl _), Nat.sub_self] at e3
      cases e1
      cases e2
      cases e3
      exact go hd nm.1
  · have : (a.t :: a.o :: a.l :: a.M ++ [m]).Nodup := by
      rw [List.nodup_append]
      refine ⟨h.nd, by simp, fun y hy z hz => ?_⟩
      rw [List.mem_singleton] at hz
      subst hz
      intro q
      subst q
      simp only [List.mem_cons] at hy
      rcases hy with q | q | q | q
      · exact nm.1 q
      · exact nm.2.1 q
      · exact nm.2.2.1 q
      · exact nm.2.2.2 q
    exact this
  · show (a.X ++ [x]).Nodup
    rw [List.nodup_append]
    refine ⟨h.nx, by simp, fun y hy z hz => ?_⟩
    rw [List.mem_singleton] at hz
    subst hz
    exact fun q => nx (q ▸ hy)
end
end My
namespace My
open PySem L2 SX XT XS XE
open C8 (pss_cut tCut cutS_slice pe_gc)
section
variable {P : Program} {w : World} {K : PySem.W.Frag} {mg : Str → Option Value} {base : Heap} {A : Ads}
/-! ### the classes' __init__ -/
def spHI (C : Addr) (n : Str) (K : PySem.W.Frag) : Sp := fun vs H Q _ => ∃ x dx l xs, vs = [.ref x, .ref l] ∧ H x = some (.ins C dx []) ∧ SqL K H l xs ∧ ∀ H' m, Keep x H H' → H' x = some (.ins C dx [(n, .ref m)]) → H m = none → H' m = some (.lst xs) → Q .non H'
theorem ok_Parts_init (L : Lib P K mg A) : FnOk P w K mg base CX0 1 L.Parts_init.f L.Parts_init.fd ["self", "held"] (spHI A.Parts "held" K) := by
  refine L.Parts_init.F.ok sc_Parts_init (fun vs H Q E h => ?_) (fun cdv A' outer s H vs Q E hr h => ?_)
  · obtain ⟨x, dx, l, xs, rfl, _⟩ := h
    rfl
  · obtain ⟨x, dx, l, xs, rfl, hx, hl, q⟩ := h
    refine ⟨_, (pss_one (ps_fld (pv 0) (pe_callTy call_list_of (by rfl) L.z_list (by decide +kernel) (pa_cons (pv 1) pa_nil)) rfl)), ?_⟩
    refine ⟨_, rfl, l, xs, rfl, .inl hl, fun m hm => ⟨_, rfl, x, A.Parts, dx, [], rfl, (by rw [upd_ne (ne_of_none hx hm)]; exact hx), L.c_Parts.cl, L.n_Parts_held, (by show 0 < 1000; decide), ?_⟩⟩
    have nmx : m ≠ x := (ne_of_none hx hm).symm
    exact q _ m (fun b o e n => by rw [upd_ne n, upd_ne (ne_of_none e hm)]; exact e) upd_same hm (by rw [upd_ne nmx]; exact upd_same)
def spKI (A : Ads) : Sp := fun vs H Q _ => ∃ x dx v1 v2, vs = [.ref x, v1, v2] ∧ H x = some (.ins A.Kin dx []) ∧ ∀ H' m, Keep x H H' → H' x = some (.ins A.Kin dx [("name", v1), ("parent", v2), ("methods", .ref m)]) → H m = none → H' m = some (.dK []) → Q .non H'
theorem ok_Kin_init (L : Lib P K mg A) : FnOk P w K mg base CX0 1 L.Kin_init.f L.Kin_init.fd ["self", "name", "parent"] (spKI A) := by
  refine L.Kin_init.F.ok sc_Kin_init (fun vs H Q E h => ?_) (fun cdv A' outer s H vs Q E hr h => ?_)
  · obtain ⟨x, dx, v1, v2, rfl, _⟩ := h
    rfl
  · obtain ⟨x, dx, v1, v2, rfl, hx, q⟩ := h
    refine ⟨_, (pss_cons (ps_fld (pv 0) (pv 1) rfl)
      (pss_cons (ps_fld (pv 0) (pv 2) rfl)
      (pss_one (ps_fld (pv 0) pe_dnewK rfl)))), ?_⟩
    refine ⟨_, rfl, _, rfl, x, A.Kin, dx, _, rfl, hx, L.c_Kin.cl, L.n_Kin_name, (by show 0 < 1000; decide), ?_⟩
    refine ⟨_, rfl, _, rfl, x, A.Kin, dx, _, rfl, upd_same, L.c_Kin.cl, L.n_Kin_parent, (by show 1 < 1000; decide), ?_⟩
    refine fun m hm => ?_
    have nmx : x ≠ m := ne_of_none upd_same hm
    refine ⟨_, rfl, x, A.Kin, dx, _, rfl, (by rw [upd_ne nmx]; exact upd_same), L.c_Kin.cl, L.n_Kin_methods, (by show 2 < 1000; decide), ?_⟩
    refine q _ m (fun b o e n => by rw [upd_ne n, upd_ne (ne_of_none (H := upd (upd H x _) x _) (by rw [upd_ne n, upd_ne n]; exact e) hm), upd_ne n, upd_ne n]; exact e) upd_same ?_ (by rw [upd_ne nmx.symm]; exact upd_same)
    rw [upd_ne nmx.symm, upd_ne nmx.symm] at hm
    exact hm
/-- a new part is made and a field of the object at a is set -/
structure Two (H H2 : Hp) (t a : Addr) (U I : HO) : Prop where
  kk : ∀ b u, H b = some u → b ≠ a → H2 b = some u
  tt : H2 t = some U
  aa : H2 a = some I
  nn : ∀ b, H2 b = none → H b = none
  na : t ≠ a
  nt : H t = none
theorem two {H : Hp} {t a : Addr} {U I I0 : HO} (nt : H t = none) (ha : H a = some I0) : Two H (upd (upd H t U) a I) t a U I := by
  have nta : t ≠ a := (ne_of_none ha nt).symm
  refine ⟨fun b u e n => by rw [upd_ne n, upd_ne (ne_of_none e nt)]; exact e, by rw [upd_ne nta]; exact upd_same, upd_same, fun b e => ?_, nta, nt⟩
  by_cases h1 : b = a
  · rw [h1, upd_same] at e; cases e
  · rw [upd_ne h1] at e
    by_cases h2 : b = t
    · rw [h2, upd_same] at e; cases e
    · rw [upd_ne h2] at e; exact e
def stO (ls : List Str) : St := ⟨[.kin "Error" .non []], [], ls, 0⟩
def spSI (P : Program) (w : World) (K : PySem.W.Frag) (A : Ads) : Sp := fun vs H Q _ => ∃ a dx l ls, vs = [.ref a, .ref l] ∧ H a = some (.ins A.Store dx []) ∧ SqL K H l (ls.map V.str) ∧ l ≠ a ∧ ∀ H' (sa : Sa), sa.s = a → Keep a H H' → SM P w A H' sa (stO ls) → (∀ b, sa.own b → b = a ∨ H b = none) → Q .non H'
theorem ok_Store_init (L : Lib P K mg A) : FnOk P w K mg base CX0 3 L.Store_init.f L.Store_init.fd ["self", "lines"] (spSI P w K A) := by
  have G_Kin_init : FnOk P w K mg base CX0 1 L.Kin_init.f L.Kin_init.fd ["self", "name", "parent"] (spKI A) := ok_Kin_init L
  refine L.Store_init.F.ok sc_Store_init (fun vs H Q E h => ?_) (fun cdv A' outer s H vs Q E hr h => ?_)
  · obtain ⟨a, dx, l, ls, rfl, _⟩ := h
    rfl
  · obtain ⟨a, dx, l, ls, rfl, ha, hl, hla, q⟩ := h
    refine ⟨_, (pss_cons (ps_fld (pv 0) (pe_lst (pa_cons (pe_make L.Kin_init.m G_Kin_init (hr.mono (by omega)) (by rfl) L.c_Kin.g L.Kin_init.b .nil pass0 (pa_cons pe_str (pa_cons pe_non pa_nil))) pa_nil)) rfl)
      (pss_cons (ps_fld (pv 0) (pe_lst pa_nil) rfl)
      (pss_cons (ps_fld (pv 0) (pe_callTy call_list_of (by rfl) L.z_list (by decide +kernel) (pa_cons (pv 1) pa_nil)) rfl)
      (pss_one (ps_fld (pv 0) pe_int rfl))))), ?_⟩
    intro y dy ny ndy nyd
    refine ⟨y, dy, _, _, rfl, upd_same, fun H1 m k1 hy nm hm => ⟨rfl, ?_⟩⟩
    have s1 : Same H H1 := Same.made ny ndy k1
    have ha1 := s1 _ _ ha
    have nya : y ≠ a := fun z => by rw [z, ha] at ny; cases ny
    have nm0 : H m = none := by
      by_cases h1 : m = y
      · rw [h1]; exact ny
      · by_cases h2 : m = dy
        · rw [h2]; exact ndy
        · rw [upd_ne h1, upd_ne h2] at nm; exact nm
    have nma : m ≠ a := fun z => by rw [z, ha] at nm0; cases nm0
    refine ⟨(by show 1 ≤ sizeLine; decide), fun t nt => ?_⟩
    refine ⟨_, rfl, a, A.Store, dx, [], rfl, (by rw [upd_ne (ne_of_none ha1 nt)]; exact ha1), L.c_Store.cl, L.n_Store_things, (by show 0 < 1000; decide), ?_⟩
    have T1 := two (U := .lst [.ref y]) (I := .ins A.Store dx (putF "things" (V.ref t) [])) nt ha1
    generalize upd (upd H1 t (.lst [V.ref y])) a (.ins A.Store dx (putF "things" (V.ref t) [])) = H2 at T1 ⊢
    refine ⟨Nat.zero_le _, fun o no => ?_⟩
    refine ⟨_, rfl, a, A.Store, dx, _, rfl, (by rw [upd_ne (ne_of_none T1.aa no)]; exact T1.aa), L.c_Store.cl, L.n_Store_output, (by show 1 < 1000; decide), ?_⟩
    have T2 := two (U := .lst []) (I := .ins A.Store dx (putF "output" (V.ref o) (putF "things" (V.ref t) []))) no T1.aa
    generalize upd (upd H2 o (.lst [])) a (.ins A.Store dx (putF "output" (V.ref o) (putF "things" (V.ref t) []))) = H3 at T2 ⊢
    have k13 : ∀ b u, H b = some u → b ≠ a → H3 b = some u := fun b u e n => T2.kk _ _ (T1.kk _ _ (s1 _ _ e) n) n
    have hl3 : SqL K H3 l (ls.map V.str) := by
      rcases hl with (hl | ⟨ob, hl⟩) | hl
      · exact .inl (.inl (k13 _ _ hl hla))
      · exact .inl (.inr ⟨ob, k13 _ _ hl hla⟩)
      · exact .inr hl
    refine ⟨_, rfl, l, _, rfl, .inl hl3, fun lm nlm => ?_⟩
    refine ⟨_, rfl, a, A.Store, dx, _, rfl, (by rw [upd_ne (ne_of_none T2.aa nlm)]; exact T2.aa), L.c_Store.cl, L.n_Store_lines, (by show 2 < 1000; decide), ?_⟩
    refine ⟨_, rfl, a, A.Store, dx, _, rfl, upd_same, L.c_Store.cl, L.n_Store_taken, (by show 3 < 1000; decide), ?_⟩
    have T3 := two (U := .lst (ls.map V.str)) (I := .ins A.Store dx (putF "lines" (V.ref lm) (putF "output" (V.ref o) (putF "things" (V.ref t) [])))) nlm T2.aa
    generalize upd (upd H3 lm (.lst (ls.map V.str))) a (.ins A.Store dx (putF "lines" (V.ref lm) (putF "output" (V.ref o) (putF "things" (V.ref t) [])))) = H4 at T3 ⊢
    have kF : ∀ {b : Addr} {u : HO}, H4 b = some u → b ≠ a → upd H4 a (.ins A.Store dx (putF "taken" (V.int 0) (putF "lines" (V.ref lm) (putF "output" (V.ref o) (putF "things" (V.ref t) []))))) b = some u := fun e n => by rw [upd_ne n]; exact e
    have ht4 := T3.kk _ _ (T2.kk _ _ T1.tt T1.na) T1.na
    have ho4 := T3.kk _ _ T2.tt T2.na
    have hy4 := T3.kk _ _ (T2.kk _ _ (T1.kk _ _ hy nya) nya) nya
    have hm4 := T3.kk _ _ (T2.kk _ _ (T1.kk _ _ hm nma) nma) nma
    refine q _ ⟨a, t, o, lm, [y], [m]⟩ rfl (fun b u e n => kF (T3.kk _ _ (k13 _ _ e n) n) n) ⟨⟨dx, upd_same⟩, kF ht4 T1.na, kF ho4 T2.na, kF T3.tt T3.na, rfl, rfl, ?_, ?_, by simp⟩ ?_
    · intro i x' m' d' e1 e2 e3
      match i, e1, e2, e3 with
      | 0, e1, e2, e3 =>
        cases e1
        cases e2
        cases e3
        exact ⟨_, .non, [], kF hy4 nya, rfl, kF hm4 nma, trivial⟩
      | i + 1, e1, e2, e3 => simp at e1
    · have hm1 := hm
      have n1 : t ≠ m := (ne_of_none hm1 nt).symm
      have n2 : t ≠ o := ne_of_none T1.tt no
      have n3 : t ≠ lm := ne_of_none (T2.kk _ _ T1.tt T1.na) nlm
      have n4 : o ≠ m := (ne_of_none (T1.kk _ _ hm1 nma) no).symm
      have n5 : o ≠ lm := ne_of_none T2.tt nlm
      have n6 : lm ≠ m := (ne_of_none (T2.kk _ _ (T1.kk _ _ hm1 nma) nma) nlm).symm
      simp [n1, n2, n3, n4, n5, n6]
    · intro b hb
      rcases hb with rfl | rfl | rfl | rfl | hb | hb
      · exact .inl rfl
      · exact .inr (s1.free nt)
      · exact .inr (s1.free (T1.nn _ no))
      · exact .inr (s1.free (T1.nn _ (T2.nn _ nlm)))
      · rw [List.mem_singleton] at hb
        subst hb
        exact .inr ny
      · rw [List.mem_singleton] at hb
        subst hb
        exact .inr nm0
/-! ### make, at -/
def spMake (P : Program) (w : World) (A : Ads) : Sp := fun vs H Q _ => ∃ (a : Sa) (S : St) (x m : Addr) (d : Th), vs = [.ref a.s, .ref x] ∧ SM P w A H a S ∧ ThAt P w A H x m d ∧ x ∉ a.X ∧ m ∉ a.t :: a.o :: a.l :: a.M ∧ S.things.length < 100000 ∧
  ∀ H' r, Keep a.t H H' → SM P w A H' { a with X := a.X ++ [x], M := a.M ++ [m] } { S with things := S.things ++ [d] } → H r = none → Has A H' (.ref r) (.obj S.things.length) → Q (.ref r) H'
theorem ok_Store_make (L : Lib P K mg A) : FnOk P w K mg base CX0 3 L.Store_make.f L.Store_make.fd ["self", "thing"] (spMake P w A) := by
  have G_Ref_init : FnOk P w K mg base CX0 1 L.Ref_init.f L.Ref_init.fd ["self", "number"] (spI1 A.Ref "number") := ok_Ref_init L
  refine L.Store_make.F.ok sc_Store_make (fun vs H Q E h => ?_) (fun cdv A' outer s H vs Q E hr h => ?_)
  · obtain ⟨a, S, x, m, d, rfl, _⟩ := h
    rfl
  · obtain ⟨a, S, x, m, d, rfl, hS, hd, nx, nm, hl, q⟩ := h
    refine ⟨_, (pss_cons (ps_expr (pe_bm PySem.F.plainAttrs_list PySem.F.slot_list_append PySem.F.type_list_append mt_append (pe_fld (pv 0) rfl) (pa_cons (pv 1) pa_nil)))
      (pss_one (ps_ret (pe_make L.Ref_init.m G_Ref_init (hr.mono (by omega)) (by rfl) L.c_Ref.g L.Ref_init.b .nil pass0 (pa_cons (pe_op op_sub (pe_callB call_len_seq (by rfl) L.z_len PySem.boot_len (pa_cons (pe_fld (pv 0) rfl) pa_nil)) pe_int) pa_nil))))), ?_⟩
    obtain ⟨dx, h1⟩ := hS.s_
    have hlx := hS.lx
    have nst : a.s ≠ a.t := fun z => by rw [z, hS.t_] at h1; cases h1
    refine ⟨_, rfl, a.s, A.Store, dx, _, _, rfl, h1, L.c_Store.cl, L.n_Store_things, st_things _ _ _ _, .inl ⟨rfl, _, SqL.of hS.t_⟩, _, rfl, a.t, _, _, rfl, rfl, hS.t_, Nat.lt_of_le_of_lt (m := 100000) (by rw [List.length_map]; omega) (by decide), ?_⟩
    have e : a.X.map V.ref ++ [V.ref x] = (a.X ++ [x]).map V.ref := by rw [List.map_append]; rfl
    rw [e]
    have P1 := hS.push hd nx nm
    have K1 : Keep a.t H (upd H a.t (.lst ((a.X ++ [x]).map V.ref))) := keep_upd
    refine ⟨_, rfl, a.s, A.Store, dx, _, _, rfl, K1 _ _ h1 nst, L.c_Store.cl, L.n_Store_things, st_things _ _ _ _, a.t, _, rfl, .inl (SqL.of upd_same), _, _, rfl, rfl, ?_⟩
    intro r dr nr ndr ndrr
    refine ⟨r, dr, _, rfl, upd_same, fun H1 k1 hR1 => ⟨rfl, ?_⟩⟩
    have s1 := Same.made nr ndr k1
    have nrt : r ≠ a.t := fun z => by rw [z, upd_same] at nr; cases nr
    refine q _ r (fun b ob e n => s1 _ _ (K1 _ _ e n)) (P1.same s1) (by rw [upd_ne nrt] at nr; exact nr) ⟨r, dr, rfl, ?_⟩
    have : ((((a.X ++ [x]).map V.ref).length : Nat) : Int) - 1 = (S.things.length : Nat) := by
      rw [List.length_map, List.length_append, List.length_singleton]
      omega
    show H1 r = some (.ins A.Ref dr [("number", .int (S.things.length : Nat))])
    rw [← this]
    exact hR1
def spAt (P : Program) (w : World) (A : Ads) : Sp := fun vs H Q _ => ∃ (a : Sa) (S : St) (r x : Addr) (i : Nat), vs = [.ref a.s, .ref r] ∧ SM P w A H a S ∧ Has A H (.ref r) (.obj i) ∧ a.X[i]? = some x ∧ Q (.ref x) H
theorem ok_Store_at (L : Lib P K mg A) : FnOk P w K mg base CX0 1 L.Store_at.f L.Store_at.fd ["self", "ref"] (spAt P w A) := by
  refine L.Store_at.F.ok sc_Store_at (fun vs H Q E h => ?_) (fun cdv A' outer s H vs Q E hr h => ?_)
  · obtain ⟨a, S, r, x, i, rfl, _⟩ := h
    rfl
  · obtain ⟨a, S, r, x, i, rfl, hS, ⟨b, dr, e, hR⟩, hi, q⟩ := h
    cases e
    refine ⟨_, (pss_one (ps_ret (pe_ix ix_list (pe_fld (pv 0) rfl) (pe_fld (pv 1) rfl) (fun _ _ => rfl)))), ?_⟩
    obtain ⟨dx, h1⟩ := hS.s_
    exact ⟨_, rfl, a.s, A.Store, dx, _, _, rfl, h1, L.c_Store.cl, L.n_Store_things, st_things _ _ _ _, _, rfl, r, A.Ref, dr, _, _, rfl, hR, L.c_Ref.cl, L.n_Ref_number, lk_hit, a.t, _, _, .ref x, rfl, rfl, SqL.of hS.t_, atI_nat (by rw [List.getElem?_map, hi]; rfl), q⟩
/-! ### kinds -/
def tP : Th → Bool
  | .parts _ => true
  | _ => false
def tT : Th → Bool
  | .table _ => true
  | _ => false
def tI : Th → Bool
  | .inst _ _ => true
  | _ => false
def tK : Th → Bool
  | .kin _ _ _ => true
  | _ => false
theorem kit_P (L : Lib P K mg A) (d : Th) : PySem.W.kitOne K (.ref (clsT A d)) (.ref A.Parts) = some (tP d) := by
  cases d with
  | parts ds => exact kit_self _
  | table es => exact L.k_Table_Parts
  | inst o ns => exact L.k_Instance_Parts
  | kin nm par ms => exact L.k_Kin_Parts
theorem kit_T (L : Lib P K mg A) (d : Th) : PySem.W.kitOne K (.ref (clsT A d)) (.ref A.Table) = some (tT d) := by
  cases d with
  | parts ds => exact L.k_Parts_Table
  | table es => exact kit_self _
  | inst o ns => exact L.k_Instance_Table
  | kin nm par ms => exact L.k_Kin_Table
theorem kit_I (L : Lib P K mg A) (d : Th) : PySem.W.kitOne K (.ref (clsT A d)) (.ref A.Instance) = some (tI d) := by
  cases d with
  | parts ds => exact L.k_Parts_Instance
  | table es => exact L.k_Table_Instance
  | inst o ns => exact kit_self _
  | kin nm par ms => exact L.k_Kin_Instance
theorem kit_K (L : Lib P K mg A) (d : Th) : PySem.W.kitOne K (.ref (clsT A d)) (.ref A.Kin) = some (tK d) := by
  cases d with
  | parts ds => exact L.k_Parts_Kin
  | table es => exact L.k_Table_Kin
  | inst o ns => exact L.k_Instance_Kin
  | kin nm par ms => exact kit_self _
theorem th_ty (L : Lib P K mg A) {H : Hp} {x m : Addr} {d : Th} (h : ThAt P w A H x m d) : TyX K H (.ref x) (.ref (clsT A d)) := by
  obtain ⟨dx, fs, e⟩ := h.x
  cases d with
  | parts ds => exact L.c_Parts.ty e
  | table es => exact L.c_Table.ty e
  | inst o ns => exact L.c_Instance.ty e
  | kin nm par ms => exact L.c_Kin.ty e
def kindT : Th → Str
  | .parts _ => "list"
  | .table _ => "map"
  | .inst _ _ => "instance"
  | .kin _ _ _ => "class"
def spKT (P : Program) (w : World) (A : Ads) : Sp := fun vs H Q _ => ∃ x m d, vs = [.ref x] ∧ ThAt P w A H x m d ∧ Q (.str (kindT d)) H
theorem ok_kind_of_thing (L : Lib P K mg A) : FnOk P w K mg base CX0 1 L.kind_of_thing.f L.kind_of_thing.fd ["thing"] (spKT P w A) := by
  refine L.kind_of_thing.F.ok sc_kind_of_thing (fun vs H Q E h => ?_) (fun cdv A' outer s H vs Q E hr h => ?_)
  · obtain ⟨x, m, d, rfl, _⟩ := h
    rfl
  · obtain ⟨x, m, d, rfl, hd, q⟩ := h
    refine ⟨_, (pss_cons (ps_if (pt_val (pe_callB call_isi (by rfl) L.z_isinstance (by decide +kernel) (pa_cons (pv 0) (pa_cons (pe_gc (v := .ref A.Parts) (by rfl) ⟨_, L.c_Parts.g, rfl⟩) pa_nil))))
        (pss_one (ps_ret pe_str))
        pss_nil)
      (pss_cons (ps_if (pt_val (pe_callB call_isi (by rfl) L.z_isinstance (by decide +kernel) (pa_cons (pv 0) (pa_cons (pe_gc (v := .ref A.Table) (by rfl) ⟨_, L.c_Table.g, rfl⟩) pa_nil))))
        (pss_one (ps_ret pe_str))
        pss_nil)
      (pss_cons (ps_if (pt_val (pe_callB call_isi (by rfl) L.z_isinstance (by decide +kernel) (pa_cons (pv 0) (pa_cons (pe_gc (v := .ref A.Instance) (by rfl) ⟨_, L.c_Instance.g, rfl⟩) pa_nil))))
        (pss_one (ps_ret pe_str))
        pss_nil)
      (pss_cons (ps_if (pt_val (pe_callB call_isi (by rfl) L.z_isinstance (by decide +kernel) (pa_cons (pv 0) (pa_cons (pe_gc (v := .ref A.Kin) (by rfl) ⟨_, L.c_Kin.g, rfl⟩) pa_nil))))
        (pss_one (ps_ret pe_str))
        pss_nil)
      (pss_one (ps_ret pe_str)))))), ?_⟩
    have ty := th_ty L hd
    refine ⟨_, rfl, _, .ref A.Parts, _, .ref A.Parts, _, rfl, .own _, ty, kit_P L d, _, rfl, ite_or (fun e => ?_) fun e1 => ?_⟩
    · cases d <;> first | exact q | (cases e; done)
    refine ⟨_, rfl, _, .ref A.Table, _, .ref A.Table, _, rfl, .own _, ty, kit_T L d, _, rfl, ite_or (fun e => ?_) fun e2 => ?_⟩
    · cases d <;> first | exact q | (cases e; done)
    refine ⟨_, rfl, _, .ref A.Instance, _, .ref A.Instance, _, rfl, .own _, ty, kit_I L d, _, rfl, ite_or (fun e => ?_) fun e3 => ?_⟩
    · cases d <;> first | exact q | (cases e; done)
    refine ⟨_, rfl, _, .ref A.Kin, _, .ref A.Kin, _, rfl, .own _, ty, kit_K L d, _, rfl, ite_or (fun e => ?_) fun e4 => ?_⟩
    · cases d <;> first | exact q | (cases e; done)
    cases d <;> first | exact q | (cases e1; done) | (cases e2; done) | (cases e3; done) | (cases e4; done)
def kindD (S : St) : Dv → Str
  | .non => "null"
  | .bl _ => "boolean"
  | .int _ => "integer"
  | .str _ => "text"
  | .obj n => match S.things[n]? with
    | some d => kindT d
    | none => "function"
def okV (S : St) : Dv → Prop
  | .obj n => n < S.things.length
  | _ => True
def spKO (P : Program) (w : World) (A : Ads) : Sp := fun vs H Q _ => ∃ (a : Sa) (S : St) (v : V) (d : Dv), vs = [.ref a.s, v] ∧ SM P w A H a S ∧ Has A H v d ∧ okV S d ∧ Q (.str (kindD S d)) H
theorem ok_kind_of (L : Lib P K mg A) : FnOk P w K mg base CX0 2 L.kind_of.f L.kind_of.fd ["store", "value"] (spKO P w A) := by
  have G_kind_of_thing : FnOk P w K mg base CX0 1 L.kind_of_thing.f L.kind_of_thing.fd ["thing"] (spKT P w A) := ok_kind_of_thing L
  have G_Store_at : FnOk P w K mg base CX0 1 L.Store_at.f L.Store_at.fd ["self", "ref"] (spAt P w A) := ok_Store_at L
  refine L.kind_of.F.ok sc_kind_of (fun vs H Q E h => ?_) (fun cdv A' outer s H vs Q E hr h => ?_)
  · obtain ⟨a, S, v, d, rfl, _⟩ := h
    rfl
  · obtain ⟨a, S, v, d, rfl, hS, hv, ho, q⟩ := h
    refine ⟨_, (pss_cons (ps_if (pt_cmpR op_isN (pv 1) pe_non (nomark _))
        (pss_one (ps_ret pe_str))
        pss_nil)
      (pss_cons (ps_if (pt_val (pe_callB call_isi (by rfl) L.z_isinstance (by decide +kernel) (pa_cons (pv 1) (pa_cons (pe_bltn (v := .ty "bool") (by rfl) L.z_bool (by decide +kernel) rfl) pa_nil))))
        (pss_one (ps_ret pe_str))
        pss_nil)
      (pss_cons (ps_if (pt_val (pe_callB call_isi (by rfl) L.z_isinstance (by decide +kernel) (pa_cons (pv 1) (pa_cons (pe_bltn (v := .ty "int") (by rfl) L.z_int (by decide +kernel) rfl) pa_nil))))
        (pss_one (ps_ret pe_str))
        pss_nil)
      (pss_cons (ps_if (pt_val (pe_callB call_isi (by rfl) L.z_isinstance (by decide +kernel) (pa_cons (pv 1) (pa_cons (pe_bltn (v := .ty "str") (by rfl) L.z_str (by decide +kernel) rfl) pa_nil))))
        (pss_one (ps_ret pe_str))
        pss_nil)
      (pss_cons (ps_if (pt_val (pe_callB call_isi (by rfl) L.z_isinstance (by decide +kernel) (pa_cons (pv 1) (pa_cons (pe_gc (v := .ref A.Ref) (by rfl) ⟨_, L.c_Ref.g, rfl⟩) pa_nil))))
        (pss_one (ps_ret (pe_call G_kind_of_thing (hr.mono (by omega)) (by rfl) L.kind_of_thing.g L.kind_of_thing.F.kp L.kind_of_thing.b .nil pass0 (pa_cons (pe_meth (pv 0) L.c_Store.cl L.Store_at.m G_Store_at (hr.mono (by omega)) L.Store_at.b .nil pass0 (pa_cons (pv 1) pa_nil)) pa_nil))))
        pss_nil)
      (pss_one (ps_ret pe_str))))))), ?_⟩
    have ty := has_ty L hv
    have isn : decide (v = V.non) = decide (d = .non) := by
      cases d with
      | non => cases hv; rfl
      | obj n => obtain ⟨b, dx, rfl, _⟩ := hv; rfl
      | _ => cases hv; rfl
    refine ⟨_, rfl, rfl, _, rfl, ite_or (fun e => ?_) fun e0 => ?_⟩
    · rw [isn] at e
      have : d = .non := of_decide_eq_true e
      subst this
      exact q
    rw [isn] at e0
    refine ⟨_, rfl, v, .ty "bool", _, _, _, rfl, .ty _, ty, kit_bool L d, _, rfl, ite_or (fun e => ?_) fun e1 => ?_⟩
    · cases d <;> first | exact q | (cases e; done)
    refine ⟨_, rfl, v, .ty "int", _, _, _, rfl, .ty _, ty, kit_int L d, _, rfl, ite_or (fun e => ?_) fun e2 => ?_⟩
    · cases d <;> first | exact q | (cases e; done) | (cases e1; done)
    refine ⟨_, rfl, v, .ty "str", _, _, _, rfl, .ty _, ty, kit_str L d, _, rfl, ite_or (fun e => ?_) fun e3 => ?_⟩
    · cases d <;> first | exact q | (cases e; done)
    refine ⟨_, rfl, v, .ref A.Ref, _, .ref A.Ref, _, rfl, .own _, ty, kit_R L d, _, rfl, ite_or (fun e => ?_) fun e4 => ?_⟩
    · cases d with
      | obj n =>
        obtain ⟨th, hth⟩ : ∃ th, S.things[n]? = some th := ⟨_, List.getElem?_eq_getElem ho⟩
        obtain ⟨x, m, hx, hm, ht⟩ := hS.get hth
        obtain ⟨dx, h1⟩ := hS.s_
        have q' : Q (.str (kindT th)) H := by
          have : kindD S (.obj n) = kindT th := by
            show (match S.things[n]? with
              | some d => kindT d
              | none => "function") = kindT th
            rw [hth]
          rw [← this]
          exact q
        obtain ⟨b, db, rfl, hb⟩ := hv
        exact ⟨_, rfl, a.s, dx, _, rfl, h1, st_no _ _ _ _ (by decide +kernel) (by decide +kernel) (by decide +kernel) (by decide +kernel), _, rfl, a, S, b, x, n, rfl, hS, ⟨b, db, rfl, hb⟩, hx, x, m, th, rfl, ht, q'⟩
      | _ => cases e
    cases d <;> first | exact q | (cases e0; done) | (cases e1; done) | (cases e2; done) | (cases e3; done) | (cases e4; done)
end
end My
namespace My
open PySem L2 SX XT XS XE
open C8 (pss_cut tCut cutS_slice pe_gc)
def Err (E : XK) (cE : Addr) (H : Hp) (k m : Str) : Prop := ∀ d, H d = none → E (.ref cE) (some d) (upd H d (.xd [("message", .str m), ("kind", .str k)]))
/-! ### entries -/
def valE (es : List (Dv × Dv)) (k : Dv) : Option Dv := (es.find? fun p => decide (p.1 = k)).map (·.2)
def putE (es : List (Dv × Dv)) (k v : Dv) : List (Dv × Dv) := if (valE es k).isSome = true then es.map (fun p => if p.1 = k then (p.1, v) else p) else es ++ [(k, v)]
theorem Ents.len {A : Ads} {H : Hp} : ∀ {es : List Ent} {ps : List (Dv × Dv)}, Ents A H es ps → es.length = ps.length
  | [], [], _ => rfl
  | _ :: _, _ :: _, h => congrArg (· + 1) (Ents.len h.2)
  | [], _ :: _, h => h.elim
  | _ :: _, [], h => h.elim
theorem Ents.val {A : Ads} {H : Hp} {k : Dv} (hk : keyD k = true) : ∀ {es : List Ent} {ps : List (Dv × Dv)}, Ents A H es ps → (valT es (toV k)).isSome = (valE ps k).isSome
  | [], [], _ => rfl
  | e :: es, p :: ps, h => by
    have ih := Ents.val hk h.2
    unfold valT valE at ih ⊢
    rw [List.find?_cons, List.find?_cons]
    have : decide (e.1 = toV k) = decide (p.1 = k) := by
      rw [decide_eq_decide, h.1.2.1]
      exact ⟨fun z => toV_inj h.1.1 hk z, fun z => by rw [z]⟩
    rw [this]
    by_cases c : p.1 = k
    · rw [decide_eq_true c]; rfl
    · rw [decide_eq_false c]; exact ih
  | [], _ :: _, h => h.elim
  | _ :: _, [], h => h.elim
theorem Ents.app {A : Ads} {H : Hp} : ∀ {es fs : List Ent} {ps qs : List (Dv × Dv)}, Ents A H es ps → Ents A H fs qs → Ents A H (es ++ fs) (ps ++ qs)
  | [], _, [], _, _, g => g
  | _ :: _, _, _ :: _, _, h, g => ⟨h.1, Ents.app h.2 g⟩
  | [], _, _ :: _, _, h, _ => h.elim
  | _ :: _, _, [], _, h, _ => h.elim
theorem Ents.put {A : Ads} {H : Hp} {k v : Dv} {b q : Addr} {vv : V} (hk : keyD k = true) (hq : H q = some (.tup [toV k, vv])) (hv : Has A H vv v) {es : List Ent} {ps : List (Dv × Dv)} (h : Ents A H es ps) : Ents A H (putT es (toV k) b (.ref q)) (putE ps k v) := by
  unfold putT putE
  rw [h.val hk]
  split
  · have : ∀ {es : List Ent} {ps : List (Dv × Dv)}, Ents A H es ps → Ents A H (es.map fun e => if e.1 = toV k then (e.1, e.2.1, .ref q) else e) (ps.map fun p => if p.1 = k then (p.1, v) else p) := by
      intro es
      induction es with
      | nil =>
        intro ps h
        cases ps with
        | nil => trivial
        | cons p ps => exact h.elim
      | cons e es ih =>
        intro ps h
        cases ps with
        | nil => exact h.elim
        | cons p ps =>
          obtain ⟨⟨k1, k2, q1, v1, k3, k4, k5⟩, r⟩ := h
          refine ⟨?_, ih r⟩
          by_cases c : p.1 = k
          · have c2 : e.1 = toV k := by rw [k2, c]
            simp only [c2, c, if_true]
            exact ⟨by rw [← c]; exact k1, trivial, q, vv, rfl, hq, hv⟩
          · have c2 : ¬ e.1 = toV k := fun z => c (toV_inj k1 hk (k2.symm.trans z))
            simp only [c2, c, if_false]
            exact ⟨k1, k2, q1, v1, k3, k4, k5⟩
    exact this h
  · exact h.app ⟨⟨hk, rfl, q, vv, rfl, hq, hv⟩, trivial⟩
theorem valE_some {es : List (Dv × Dv)} {k : Dv} : (valE es k).isSome = true ↔ k ∈ es.map Prod.fst := by
  unfold valE
  rw [Option.isSome_map, List.find?_isSome]
  constructor
  · rintro ⟨p, hp, e⟩
    exact List.mem_map.mpr ⟨p, hp, of_decide_eq_true e⟩
  · intro h
    obtain ⟨p, hp, e⟩ := List.mem_map.mp h
    exact ⟨p, hp, decide_eq_true e⟩
theorem putE_keys {es : List (Dv × Dv)} {k v : Dv} : (putE es k v).map Prod.fst = if k ∈ es.map Prod.fst then es.map Prod.fst else es.map Prod.fst ++ [k] := by
  unfold putE
  by_cases h : (valE es k).isSome = true
  · rw [if_pos h, if_pos (valE_some.mp h), List.map_map]
    refine List.map_congr_left fun p _ => ?_
    show (if p.1 = k then (p.1, v) else p).1 = p.1
    split <;> rfl
  · rw [if_neg h, if_neg fun z => h (valE_some.mpr z), List.map_append]
    rfl
theorem putE_nd {es : List (Dv × Dv)} {k v : Dv} (h : (es.map Prod.fst).Nodup) : ((putE es k v).map Prod.fst).Nodup := by
  rw [putE_keys]
  split
  · exact h
  · rename_i c
    rw [List.nodup_append]
    refine ⟨h, by simp, fun x hx y hy z => ?_⟩
    rw [List.mem_singleton] at hy
    rw [z, hy] at hx
    exact c hx
theorem putE_len {es : List (Dv × Dv)} {k v : Dv} : (putE es k v).length ≤ es.length + 1 ∧ ((valE es k).isSome = true → (putE es k v).length = es.length) := by
  unfold putE
  split
  · simp
  · rename_i c
    exact ⟨by simp, fun z => absurd z c⟩
theorem putE_new {es : List (Dv × Dv)} {k v : Dv} (h : k ∉ es.map Prod.fst) : putE es k v = es ++ [(k, v)] := by
  unfold putE
  rw [if_neg fun z => h (valE_some.mp z)]
/-! ### how a store goes on -/
structure Ev (a a' : Sa) (H H' : Hp) : Prop where
  fr : Fr a H H'
  s : a'.s = a.s
  gw : ∀ b, a'.own b → a.own b ∨ H b = none
theorem Ev.trans {a b c : Sa} {H H1 H2 : Hp} (x : Ev a b H H1) (y : Ev b c H1 H2) : Ev a c H H2 := by
  refine ⟨fun d u e n => y.fr _ _ (x.fr _ _ e n) fun z => ?_, y.s.trans x.s, fun d z => ?_⟩
  · rcases x.gw d z with q | q
    · exact n q
    · rw [q] at e; cases e
  · rcases y.gw d z with q | q
    · exact x.gw d q
    · cases e : H d with
      | none => exact .inr rfl
      | some u =>
        by_cases o : a.own d
        · exact .inl o
        · rw [x.fr _ _ e o] at q; cases q
theorem Ev.same {a : Sa} {H H' : Hp} (s : Same H H') : Ev a a H H' := ⟨fun b u e _ => s b u e, rfl, fun _ z => .inl z⟩
theorem Ev.rfl' {a : Sa} {H : Hp} : Ev a a H H := Ev.same fun _ _ e => e
theorem Ev.nin {a a' : Sa} {H H' : Hp} (x : Ev a a' H H') {p : Addr} {u : HO} (e : H p = some u) (n : ¬ a.own p) : ¬ a'.own p := fun z => by
  rcases x.gw p z with q | q
  · exact n q
  · rw [q] at e; cases e
theorem op_notTrue {X : Cx} : OpR X (compareOp .IsNot) (fun x y H Q => x = .bl true ∧ y = .bl true ∧ Q (.bl false) H) := by
  intro pins s σ H x y v u Q I rx ry h
  obtain ⟨rfl, rfl, q⟩ := h
  cases (show u = Value.bool true from ry)
  cases (show v = Value.bool true from rx)
  exact wpAny_isNot_self rfl ⟨.bl false, H, I, rfl, q⟩
section
variable {P : Program} {w : World} {K : PySem.W.Frag} {mg : Str → Option Value} {base : Heap} {A : Ads}
/-! ### checks that hold -/
def spCS : Sp := fun vs H Q _ => ∃ i : Int, vs = [.int i] ∧ i ≤ 1000 ∧ Q .non H
theorem ok_check_size (L : Lib P K mg A) : FnOk P w K mg base CX0 1 L.check_size.f L.check_size.fd ["size"] spCS := by
  refine L.check_size.F.ok sc_check_size (fun vs H Q E h => ?_) (fun cdv A' outer s H vs Q E hr h => ?_)
  · obtain ⟨i, rfl, _⟩ := h
    rfl
  · obtain ⟨i, rfl, hi, q⟩ := h
    refine ⟨_, (pss_one (ps_if (pt_cmpR op_gt (pv 0) (pe_glob (v := .int 1000) (by rfl) L.v_MOST_HELD.choose_spec ⟨_, rfl⟩) (nomark _))
        (pss_one ps_never)
        pss_nil)), ?_⟩
    exact ⟨_, rfl, _, _, rfl, rfl, _, rfl, ifF (decide_eq_false (by omega)) q⟩
theorem kit_is2 (L : Lib P K mg A) (d : Dv) : PySem.W.kitAny K (tyD A d) [.type "int", .type "str"] = some (dI d || dS d) := by
  unfold PySem.W.kitAny
  rw [kit_int L d]
  cases h : dI d with
  | true => rfl
  | false =>
    unfold PySem.W.kitAny
    rw [kit_str L d]
    cases dS d <;> rfl
def spIK (A : Ads) : Sp := fun vs H Q _ => ∃ v d, vs = [v] ∧ Has A H v d ∧ ∀ H', Same H H' → Q (.bl (keyD d)) H'
theorem ok_is_key (L : Lib P K mg A) : FnOk P w K mg base CX0 1 L.is_key.f L.is_key.fd ["value"] (spIK A) := by
  refine L.is_key.F.ok sc_is_key (fun vs H Q E h => ?_) (fun cdv A' outer s H vs Q E hr h => ?_)
  · obtain ⟨v, d, rfl, _⟩ := h
    rfl
  · obtain ⟨v, d, rfl, hv, q⟩ := h
    refine ⟨_, (pss_one (ps_ret (pe_or (pe_cmpR op_isN (pv 0) pe_non (nomark _)) (pe_one (pe_callB call_isiT (by rfl) L.z_isinstance (by decide +kernel) (pa_cons (pv 0) (pa_cons (pe_tup (pa_cons (pe_bltn (v := .ty "int") (by rfl) L.z_int (by decide +kernel) rfl) (pa_cons (pe_bltn (v := .ty "str") (by rfl) L.z_str (by decide +kernel) rfl) pa_nil))) pa_nil))))))), ?_⟩
    refine ⟨_, rfl, rfl, _, rfl, ite_or (fun e => ?_) fun e0 => ?_⟩
    · have : d = .non := by
        have e := of_decide_eq_true e
        subst e
        cases d with
        | non => rfl
        | obj n => obtain ⟨b, dx, z, _⟩ := hv; cases z
        | _ => cases hv
      subst this
      exact q H fun _ _ e => e
    · refine ⟨_, rfl, (by show 2 ≤ sizeLine; decide), fun p np => ?_⟩
      have s1 := same_upd (o := .tup [.ty "int", .ty "str"]) np
      refine ⟨v, p, [.ty "int", .ty "str"], tyD A d, [.type "int", .type "str"], keyD d, rfl, upd_same, .cons (.ty _) (.cons (.ty _) .nil), has_ty L (hv.sv (Same.sv s1)), ?_, q _ s1⟩
      refine (kit_is2 L d).trans ?_
      cases d with
      | non => cases hv; cases e0
      | _ => rfl
def spCK (A : Ads) : Sp := fun vs H Q _ => ∃ v d, vs = [v] ∧ Has A H v d ∧ keyD d = true ∧ ∀ H', Same H H' → Q .non H'
theorem ok_check_key (L : Lib P K mg A) : FnOk P w K mg base CX0 2 L.check_key.f L.check_key.fd ["key"] (spCK A) := by
  have G_is_key : FnOk P w K mg base CX0 1 L.is_key.f L.is_key.fd ["value"] (spIK A) := ok_is_key L
  refine L.check_key.F.ok sc_check_key (fun vs H Q E h => ?_) (fun cdv A' outer s H vs Q E hr h => ?_)
  · obtain ⟨v, d, rfl, _⟩ := h
    rfl
  · obtain ⟨v, d, rfl, hv, hk, q⟩ := h
    refine ⟨_, (pss_one (ps_if (pt_not (pt_val (pe_call G_is_key (hr.mono (by omega)) (by rfl) L.is_key.g L.is_key.F.kp L.is_key.b .nil pass0 (pa_cons (pv 0) pa_nil))))
        (pss_one ps_never)
        pss_nil)), ?_⟩
    exact ⟨_, rfl, v, d, rfl, hv, fun H' s1 => ⟨_, rfl, by rw [hk]; exact iteF (q H' s1)⟩⟩
def spPE (P : Program) (w : World) (A : Ads) : Sp := fun vs H Q _ => ∃ x m kv vv k d ents es, vs = [.ref x, kv, vv] ∧ TblAt P w A H x m ents ∧ Ents A H ents es ∧ Has A H kv k ∧ keyD k = true ∧ Has A H vv d ∧ es.length < 1000 ∧
  ∀ H' ents', Keep m H H' → TblAt P w A H' x m ents' → Ents A H' ents' (putE es k d) → Q .non H'
theorem ok_put_entry (L : Lib P K mg A) : FnOk P w K mg base CX0 3 L.put_entry.f L.put_entry.fd ["table", "key", "value"] (spPE P w A) := by
  have G_check_key : FnOk P w K mg base CX0 2 L.check_key.f L.check_key.fd ["key"] (spCK A) := ok_check_key L
  have G_check_size : FnOk P w K mg base CX0 1 L.check_size.f L.check_size.fd ["size"] spCS := ok_check_size L
  have G_Table_has : FnOk P w K mg base CX0 2 L.Table_has.f L.Table_has.fd ["self", "key"] (spTHas P w A) := ok_Table_has L
  have G_Table_many : FnOk P w K mg base CX0 1 L.Table_many.f L.Table_many.fd ["self"] (spTMany P w A) := ok_Table_many L
  have G_Table_put : FnOk P w K mg base CX0 2 L.Table_put.f L.Table_put.fd ["self", "key", "value"] (spTPut P w A) := ok_Table_put L
  refine L.put_entry.F.ok sc_put_entry (fun vs H Q E h => ?_) (fun cdv A' outer s H vs Q E hr h => ?_)
  · obtain ⟨x, m, kv, vv, k, d, ents, es, rfl, _⟩ := h
    rfl
  · obtain ⟨x, m, kv, vv, k, d, ents, es, rfl, hT, hE, hk, hkd, hv, hl, q⟩ := h
    obtain ⟨ekv, kok⟩ := has_key hk hkd
    subst ekv
    have hlen := hE.len
    refine ⟨_, (pss_cons (ps_expr (pe_call G_check_key (hr.mono (by omega)) (by rfl) L.check_key.g L.check_key.F.kp L.check_key.b .nil pass0 (pa_cons (pv 1) pa_nil)))
      (pss_cut (ps_if (pt_not (pt_val (pe_meth (pv 0) L.c_Table.cl L.Table_has.m G_Table_has (hr.mono (by omega)) L.Table_has.b .nil pass0 (pa_cons (pv 1) pa_nil))))
        (pss_one (ps_expr (pe_call G_check_size (hr.mono (by omega)) (by rfl) L.check_size.g L.check_size.F.kp L.check_size.b .nil pass0 (pa_cons (pe_op op_add (pe_prop (pv 0) L.c_Table.cl L.Table_many.m G_Table_many (hr.mono (by omega)) L.Table_many.b .nil pass0 rfl) pe_int) pa_nil))))
        pss_nil)
      (pss_one (ps_expr (pe_meth (pv 0) L.c_Table.cl L.Table_put.m G_Table_put (hr.mono (by omega)) L.Table_put.b .nil pass0 (pa_cons (pv 1) (pa_cons (pv 2) pa_nil))))))), ?_⟩
    obtain ⟨⟨dx, hx⟩, _, _⟩ := id hT
    have last : ∀ H3, Same H H3 → TblAt P w A H3 x m ents → Ents A H3 ents es → spTPut P w A [.ref x, toV k, vv] H3 (fun v H' => v = .non ∧ Q .non H') (fun _ _ _ => False) := fun H3 s3 hT3 hE3 => by
      refine ⟨x, m, ents, toV k, vv, rfl, hT3, kok, by omega, fun H' b q' kk hT' hq' nq' => ⟨rfl, ?_⟩⟩
      have ct := hT3.tab.at_
      have vk : Vk A H3 H' := ⟨fun v d h => by
        cases d with
        | obj n =>
          obtain ⟨b, dx, rfl, e⟩ := h
          exact ⟨b, dx, rfl, kk _ _ e fun z => by rw [z, ct] at e; cases e⟩
        | _ => exact h, fun q xs e => kk _ _ e fun z => by rw [z, ct] at e; cases e⟩
      refine q H' _ (fun c u e n => kk _ _ (s3 _ _ e) n) hT' ((hE3.imp vk.v vk.t).put hkd hq' (vk.v _ _ (hv.sv (Same.sv s3))))
    let M : List (Option V) → Hp → Prop := fun σ' H' => σ' = [some (.ref x), some (toV k), some vv] ∧ Same H H'
    refine ⟨_, rfl, _, k, rfl, hk, hkd, fun H1 s1 => ⟨M, ?_, ?_⟩⟩
    · have hT1 := hT.same s1
      refine ⟨_, rfl, x, dx, _, rfl, s1 _ _ hx, tab_none (by decide +kernel), _, rfl, x, m, ents, _, rfl, hT1, kok, fun H2 s2 => ⟨_, rfl, ?_⟩⟩
      have s12 := s1.trans s2
      refine ite_or (fun _ => ?_) (fun _ => ⟨rfl, s12⟩)
      have hT2 := hT.same s12
      exact ⟨_, rfl, x, dx, _, rfl, s12 _ _ hx, x, m, ents, rfl, hT2, _, _, rfl, rfl, _, rfl, by omega, rfl, s12⟩
    · rintro σ' H3 ⟨rfl, s3⟩
      refine ⟨_, rfl, x, dx, _, rfl, s3 _ _ hx, tab_none (by decide +kernel), _, rfl, _, rfl, ?_⟩
      obtain ⟨x', m', e', k', v', z, a1, a2, a3, a4⟩ := last H3 s3 (hT.same s3) (hE.imp (fun v d h => h.sv (Same.sv s3)) (fun q xs e => s3 _ _ e))
      exact ⟨x', m', e', k', v', z, a1, a2, a3, fun H' b q' p1 p2 p3 p4 => (a4 H' b q' p1 p2 p3 p4).2⟩
end
end My
namespace My
open PySem L2 SX XT XS XE
open XD
open C8 (pss_cut tCut cutS_slice pe_gc)
/-- a method of a local that holds an instance of one of several classes -/
def tM0A (i : Nat) (m : Str) (S : Addr → Option Sp) : TE := fun σ H Q => ∃ p C dx fs sp, σ[i]? = some (some (.ref p)) ∧ H p = some (.ins C dx fs) ∧ fs.lookup m = none ∧ S C = some sp ∧ sp [.ref p] H Q E0
theorem pe_meth0A {X : Cx} {S : Addr → Option Sp} {x m : Str} {k i : Nat} {npos apos pos : Pos} (R : ∀ C sp, S C = some sp → ∃ (f : Addr) (fd : FuncData) (ps : List Str), Cls X.K C ∧ Meth X.K C m f ∧ FnOk X.prog X.w X.K X.mg X.base CX0 k f fd ps sp ∧ Binds X.K fd ps [])
    (hr : Room k X.A) (hN : X.N[i]? = some x) (hv : Vis X.env.scope x) (hdb : (x == ("__debug__" : Str)) = false) (hcd : (x == ("__classdict__" : Str)) = false)
    {pl : Sem Bool}
    (ht : eval (.Call (.Attribute (.Name x npos) m apos) [] [] pos) X.env = (do
      let ov ← eval (.Name x npos) X.env
      standAt apos.atName
      let (f, first) ← holding [ov] (getMethod ov m pl)
      callWith pos f first (backTo pos (starEach [] X.env)) (backToKw pos (keywordEach [] X.env))) := by rfl) :
    PE X (.Call (.Attribute (.Name x npos) m apos) [] [] pos) (tM0A i m S) := by
  refine ⟨fun pins s σ H Q I h => ?_⟩
  obtain ⟨p, C, dx, fs, sp, h1, h2, h3, h4, h5⟩ := h
  obtain ⟨f, fd, ps, c, hm, F, b⟩ := R C sp h4
  exact (pe_meth0 (pv i hN hv hdb hcd) c hm F hr b .nil pass0 ht).run pins s σ H Q I ⟨.ref p, h1, p, dx, fs, rfl, h2, h3, h5⟩
section
variable {P : Program} {w : World} {K : PySem.W.Frag} {mg : Str → Option Value} {base : Heap} {A : Ads}
theorem SM.fresh {H : Hp} {a : Sa} {S : St} (L : Lib P K mg A) (h : SM P w A H a S) {b : Addr} (n : H b = none) : ¬ a.own b := fun z => by
  obtain ⟨u, e, _⟩ := h.nv L z
  rw [n] at e
  cases e
theorem SM.grow {H H1 : Hp} {a : Sa} {S : St} {x m : Addr} (L : Lib P K mg A) (h : SM P w A H a S) (s1 : Same H H1) (nx : H x = none) (nm : H m = none) :
    x ∉ a.X ∧ m ∉ a.t :: a.o :: a.l :: a.M ∧ ∀ H2, Keep a.t H1 H2 → Ev a { a with X := a.X ++ [x], M := a.M ++ [m] } H H2 := by
  have fx := h.fresh L nx
  have fm := h.fresh L nm
  refine ⟨fun z => fx (.inr (.inr (.inr (.inr (.inl z))))), fun z => ?_, fun H2 k => ⟨fun b u e n => k _ _ (s1 _ _ e) fun z => n (.inr (.inl z)), rfl, fun b z => ?_⟩⟩
  · simp only [List.mem_cons] at z
    rcases z with z | z | z | z
    · exact fm (.inr (.inl z))
    · exact fm (.inr (.inr (.inl z)))
    · exact fm (.inr (.inr (.inr (.inl z))))
    · exact fm (.inr (.inr (.inr (.inr (.inr z)))))
  · rcases z with z | z | z | z | z | z
    · exact .inl (.inl z)
    · exact .inl (.inr (.inl z))
    · exact .inl (.inr (.inr (.inl z)))
    · exact .inl (.inr (.inr (.inr (.inl z))))
    · rcases List.mem_append.mp z with z | z
      · exact .inl (.inr (.inr (.inr (.inr (.inl z)))))
      · rw [List.mem_singleton] at z; exact .inr (z ▸ nx)
    · rcases List.mem_append.mp z with z | z
      · exact .inl (.inr (.inr (.inr (.inr (.inr z)))))
      · rw [List.mem_singleton] at z; exact .inr (z ▸ nm)
/-- how a new thing is told -/
def New (P : Program) (w : World) (A : Ads) (a : Sa) (S : St) (H : Hp) (d : Th) (Q : VK) : Prop := ∀ H' r a', Ev a a' H H' → SM P w A H' a' { S with things := S.things ++ [d] } → Has A H' (.ref r) (.obj S.things.length) → Q (.ref r) H'
def spML (P : Program) (w : World) (K : PySem.W.Frag) (A : Ads) : Sp := fun vs H Q _ => ∃ (a : Sa) (S : St) (l : Addr) (us : List V) (ds : List Dv), vs = [.ref a.s, .ref l] ∧ SM P w A H a S ∧ SqL K H l us ∧ Hs A H us ds ∧ ds.length ≤ 1000 ∧ S.things.length < 100000 ∧ New P w A a S H (.parts ds) Q
theorem ok_make_list (L : Lib P K mg A) : FnOk P w K mg base CX0 4 L.make_list.f L.make_list.fd ["store", "values"] (spML P w K A) := by
  have G_check_size : FnOk P w K mg base CX0 1 L.check_size.f L.check_size.fd ["size"] spCS := ok_check_size L
  have G_Store_make : FnOk P w K mg base CX0 3 L.Store_make.f L.Store_make.fd ["self", "thing"] (spMake P w A) := ok_Store_make L
  have G_Parts_init : FnOk P w K mg base CX0 1 L.Parts_init.f L.Parts_init.fd ["self", "held"] (spHI A.Parts "held" K) := ok_Parts_init L
  refine L.make_list.F.ok sc_make_list (fun vs H Q E h => ?_) (fun cdv A' outer s H vs Q E hr h => ?_)
  · obtain ⟨a, S, l, us, ds, rfl, _⟩ := h
    rfl
  · obtain ⟨a, S, l, us, ds, rfl, hS, hl, hd, hn, hb, q⟩ := h
    have hul := hd.len
    refine ⟨_, (pss_cons (ps_expr (pe_call G_check_size (hr.mono (by omega)) (by rfl) L.check_size.g L.check_size.F.kp L.check_size.b .nil pass0 (pa_cons (pe_callB call_len_seq (by rfl) L.z_len PySem.boot_len (pa_cons (pv 1) pa_nil)) pa_nil)))
      (pss_one (ps_ret (pe_meth (pv 0) L.c_Store.cl L.Store_make.m G_Store_make (hr.mono (by omega)) L.Store_make.b .nil pass0 (pa_cons (pe_make L.Parts_init.m G_Parts_init (hr.mono (by omega)) (by rfl) L.c_Parts.g L.Parts_init.b .nil pass0 (pa_cons (pv 1) pa_nil)) pa_nil))))), ?_⟩
    refine ⟨_, rfl, l, us, rfl, .inl hl, _, rfl, by omega, ?_⟩
    obtain ⟨dx, h1⟩ := hS.s_
    refine ⟨_, rfl, a.s, dx, _, rfl, h1, st_no _ _ _ _ (by decide +kernel) (by decide +kernel) (by decide +kernel) (by decide +kernel), _, rfl, ?_⟩
    intro x dy nx ndx ndxx
    have sm0 : Same H (upd (upd H dy (.own x)) x (.ins A.Parts dy [])) := fun b u e => by
      rw [upd_ne (ne_of_none e nx), upd_ne (ne_of_none e ndx)]
      exact e
    refine ⟨x, dy, l, us, rfl, upd_same, sm0.seq hl, fun H1 m k1 hx nm hm => ⟨rfl, ?_⟩⟩
    have s1 := Same.made nx ndx k1
    have nm0 : H m = none := sm0.free nm
    obtain ⟨g1, g2, g3⟩ := hS.grow L s1 nx nm0
    refine ⟨a, S, x, m, .parts ds, rfl, hS.same s1, ⟨dy, us, hx, hm, hd.imp fun _ _ h => h.sv (Same.sv s1)⟩, g1, g2, hb, fun H2 r k2 hS2 nr hr2 => ?_⟩
    exact q H2 r _ (g3 H2 k2) hS2 hr2
/-! ### make_map -/
theorem snocRec {α : Type} {motive : List α → Prop} (l : List α) (nil : motive []) (snoc : ∀ ps p, motive ps → motive (ps ++ [p])) : motive l := by
  have : ∀ n (l : List α), l.length = n → motive l := by
    intro n
    induction n with
    | zero => intro l h; rw [List.eq_nil_of_length_eq_zero h]; exact nil
    | succ n ih =>
      intro l h
      have hl : l ≠ [] := fun z => by rw [z] at h; cases h
      rw [← List.dropLast_concat_getLast hl]
      exact snoc _ _ (ih _ (by rw [List.length_dropLast]; omega))
  exact this _ l rfl
def Prs (A : Ads) (K : PySem.W.Frag) (H : Hp) : List V → List (Dv × Dv) → Prop
  | [], [] => True
  | v :: vs, p :: ps => (keyD p.1 = true ∧ ∃ q k u, v = .ref q ∧ SqT K H q [k, u] ∧ Has A H k p.1 ∧ Has A H u p.2) ∧ Prs A K H vs ps
  | _, _ => False
theorem Prs.len {H : Hp} : ∀ {vs : List V} {ps : List (Dv × Dv)}, Prs A K H vs ps → vs.length = ps.length
  | [], [], _ => rfl
  | _ :: _, _ :: _, h => congrArg (· + 1) (Prs.len h.2)
  | [], _ :: _, h => h.elim
  | _ :: _, [], h => h.elim
theorem Prs.at {H : Hp} : ∀ {vs : List V} {ps : List (Dv × Dv)} {i : Nat} {v : V}, Prs A K H vs ps → vs[i]? = some v → ∃ p q k u, ps[i]? = some p ∧ keyD p.1 = true ∧ v = .ref q ∧ SqT K H q [k, u] ∧ Has A H k p.1 ∧ Has A H u p.2
  | _ :: _, p :: _, 0, _, h, e => by
    simp at e
    subst e
    obtain ⟨h1, q, k, u, h2, h3, h4, h5⟩ := h.1
    exact ⟨p, q, k, u, rfl, h1, h2, h3, h4, h5⟩
  | _ :: _, _ :: _, i + 1, _, h, e => by
    simp at e
    obtain ⟨p, r⟩ := Prs.at h.2 e
    exact ⟨p, by simpa using r⟩
  | [], _ :: _, _, _, h, _ => h.elim
  | _ :: _, [], _, _, h, _ => h.elim
  | [], [], _, _, _, e => by simp at e
def putAll (ps : List (Dv × Dv)) : List (Dv × Dv) := ps.foldl (fun es p => putE es p.1 p.2) []
theorem putAll_snoc (ps : List (Dv × Dv)) (p : Dv × Dv) : putAll (ps ++ [p]) = putE (putAll ps) p.1 p.2 := by
  unfold putAll
  rw [List.foldl_append]
  rfl
theorem putAll_nd (ps : List (Dv × Dv)) : ((putAll ps).map Prod.fst).Nodup ∧ (putAll ps).length ≤ ps.length := by
  induction ps using My.snocRec with
  | nil => exact ⟨List.nodup_nil, Nat.le_refl _⟩
  | snoc ps p ih =>
    rw [putAll_snoc]
    exact ⟨putE_nd ih.1, by have := (putE_len (es := putAll ps) (k := p.1) (v := p.2)).1; rw [List.length_append, List.length_singleton]; omega⟩
def spMMp (P : Program) (w : World) (K : PySem.W.Frag) (A : Ads) : Sp := fun vs H Q _ => ∃ (a : Sa) (S : St) (l : Addr) (us : List V) (ps : List (Dv × Dv)), vs = [.ref a.s, .ref l] ∧ SM P w A H a S ∧ SqL K H l us ∧ Prs A K H us ps ∧ ps.length ≤ 1000 ∧ S.things.length < 100000 ∧ New P w A a S H (.table (putAll ps)) Q
theorem ok_make_map (L : Lib P K mg A) : FnOk P w K mg base CX0 4 L.make_map.f L.make_map.fd ["store", "pairs"] (spMMp P w K A) := by
  have G_Table_init : FnOk P w K mg base CX0 1 L.Table_init.f L.Table_init.fd ["self"] (spTI P w A) := ok_Table_init L
  have G_put_entry : FnOk P w K mg base CX0 3 L.put_entry.f L.put_entry.fd ["table", "key", "value"] (spPE P w A) := ok_put_entry L
  have G_Store_make : FnOk P w K mg base CX0 3 L.Store_make.f L.Store_make.fd ["self", "thing"] (spMake P w A) := ok_Store_make L
  refine L.make_map.F.ok sc_make_map (fun vs H Q E h => ?_) (fun cdv A' outer s H vs Q E hr h => ?_)
  · obtain ⟨a, S, l, us, ps, rfl, _⟩ := h
    rfl
  · obtain ⟨a, S, l, us, ps, rfl, hS, hl, hp, hn, hb, q⟩ := h
    have hul := hp.len
    refine ⟨_, (pss_cons (ps_set (i := 2) sc_make_map.nd rfl (.inl rfl) (pe_make0 L.Table_init.m G_Table_init (hr.mono (by omega)) (by rfl) L.c_Table.g L.Table_init.b .nil pass0))
      (pss_cons (ps_for PassesOwn.never rfl (pi_list (pv 1)) (pg_tup (by rfl) (pgs_cons (pg_name (i := 3) sc_make_map.nd rfl (.inl rfl)) (pgs_cons (pg_name (i := 4) sc_make_map.nd rfl (.inl rfl)) pgs_nil)))
        (pss_one (ps_expr (pe_call G_put_entry (hr.mono (by omega)) (by rfl) L.put_entry.g L.put_entry.F.kp L.put_entry.b .nil pass0 (pa_cons (pv 2) (pa_cons (pv 3) (pa_cons (pv 4) pa_nil)))))))
      (pss_one (ps_ret (pe_meth (pv 0) L.c_Store.cl L.Store_make.m G_Store_make (hr.mono (by omega)) L.Store_make.b .nil pass0 (pa_cons (pv 2) pa_nil)))))), ?_⟩
    intro x dx nx ndx ndxx
    have sm0 : Same H (upd (upd H dx (.own x)) x (.ins A.Table dx [])) := fun b u e => by
      rw [upd_ne (ne_of_none e nx), upd_ne (ne_of_none e ndx)]
      exact e
    refine ⟨x, dx, rfl, upd_same, fun H1 m k1 nm hT => ⟨rfl, ?_⟩⟩
    have s1 := Same.made nx ndx k1
    have nm0 : H m = none := sm0.free nm
    refine ⟨_, rfl, l, rfl, ⟨_, s1.seq hl⟩, for_list (K := K) (a := l) (xs := us) (fun i σ H' => ∃ (y3 y4 : Option V) (ents : List Ent), σ = [some (.ref a.s), some (.ref l), some (.ref x), y3, y4] ∧ Same H H' ∧ TblAt P w A H' x m ents ∧ Ents A H' ents (putAll (ps.take i))) ⟨none, none, [], rfl, s1, hT, trivial⟩ (fun i σ H' _ h => by obtain ⟨_, _, _, _, s', _⟩ := h; exact s'.seq hl) ?_ ?_⟩
    · rintro i v σ H2 hv ⟨y3, y4, ents, rfl, s2, hT2, hE2⟩
      obtain ⟨p, qd, kv, uv, ep, hk, rfl, ht, hk1, hu1⟩ := hp.at hv
      have hi : i < ps.length := (List.getElem?_eq_some_iff.mp ep).1
      refine ⟨qd, _, rfl, sqt_same s2 ht, rfl, _, _, rfl, _, _, rfl, rfl, ?_⟩
      have hlen : (putAll (ps.take i)).length < 1000 := by
        have h1 := (putAll_nd (ps.take i)).2
        rw [List.length_take] at h1
        omega
      refine ⟨_, rfl, _, rfl, _, rfl, x, m, kv, uv, p.1, p.2, ents, _, rfl, hT2, hE2, hk1.sv (Same.sv s2), hk, hu1.sv (Same.sv s2), hlen, fun H3 ents3 k3 hT3 hE3 => ⟨_, _, ents3, rfl, fun b u e => k3 _ _ (s2 _ _ e) (ne_of_none e nm0), hT3, ?_⟩⟩
      rw [List.take_add_one, ep]
      show Ents A H3 ents3 (putAll (ps.take i ++ [p]))
      rw [putAll_snoc]
      exact hE3
    · rintro σ H2 ⟨y3, y4, ents, rfl, s2, hT2, hE2⟩
      rw [hul, List.take_length] at hE2
      obtain ⟨dsx, h1⟩ := hS.s_
      obtain ⟨g1, g2, g3⟩ := hS.grow L s2 nx nm0
      refine ⟨_, rfl, a.s, dsx, _, rfl, s2 _ _ h1, st_no _ _ _ _ (by decide +kernel) (by decide +kernel) (by decide +kernel) (by decide +kernel), _, rfl, ?_⟩
      refine ⟨a, S, x, m, .table (putAll ps), rfl, hS.same s2, ⟨ents, hT2, hE2, (putAll_nd ps).1, by have := (putAll_nd ps).2; omega⟩, g1, g2, hb, fun H3 r k3 hS3 nr hr3 => ?_⟩
      exact q H3 r _ (g3 H3 k3) hS3 hr3
/-! ### next_of -/
end
end My
namespace My
open PySem L2 SX XT XS XE XD XL
open C8 (pss_cut tCut cutS_slice pe_gc)
section
variable {P : Program} {w : World} {K : PySem.W.Frag} {mg : Str → Option Value} {base : Heap} {A : Ads}
def itemsT : Option Th → Option (List Dv)
  | some (.parts ds) => some ds
  | some (.table es) => some (es.map Prod.fst)
  | _ => none
def itemsD (S : St) : Dv → Option (List Dv)
  | .str x => some ((signs x).map Dv.str)
  | .obj n => itemsT S.things[n]?
  | _ => none
theorem hs_strs {H : Hp} : ∀ xs : List Str, Hs A H (xs.map V.str) (xs.map Dv.str)
  | [] => trivial
  | _ :: xs => ⟨rfl, hs_strs xs⟩
def kn : Nat → Str := fun n => if n = 0 then "null" else if n = 1 then "boolean" else if n = 2 then "integer" else if n = 3 then "text" else if n = 4 then "function" else if n = 5 then "list" else if n = 6 then "map" else if n = 7 then "instance" else "class"
def kcT : Option Th → Nat
  | some (.parts _) => 5
  | some (.table _) => 6
  | some (.inst _ _) => 7
  | some (.kin _ _ _) => 8
  | _ => 4
def kc (S : St) : Dv → Nat
  | .non => 0
  | .bl _ => 1
  | .int _ => 2
  | .str _ => 3
  | .obj n => kcT S.things[n]?
theorem kind_kn (S : St) (d : Dv) : kindD S d = kn (kc S d) ∧ kc S d < 9 := by
  cases d with
  | obj n =>
    show (match S.things[n]? with
      | some d => kindT d
      | none => "function") = kn (kcT S.things[n]?) ∧ kcT S.things[n]? < 9
    cases S.things[n]? with
    | none => exact ⟨rfl, by simp [kcT]⟩
    | some t => cases t <;> exact ⟨rfl, by simp [kcT]⟩
  | _ => exact ⟨rfl, by simp [kc]⟩
theorem kn_list : ∀ n, n < 9 → decide (V.str (kn n) = V.str "list") = decide (n = 5) := by decide +kernel
theorem kn_text : ∀ n, n < 9 → decide (V.str (kn n) = V.str "text") = decide (n = 3) := by decide +kernel
theorem kn_map : ∀ n, n < 9 → decide (V.str (kn n) = V.str "map") = decide (n = 6) := by decide +kernel
theorem kn_len : ∀ n, n < 9 → (("cannot go through " : Str) ++ kn n).length ≤ 100000 ∧ (kn n).length ≤ 100000 := by decide +kernel
theorem kn_msg : ∀ n, n < 9 → (Str.empty ++ ("cannot go through " : Str)) ++ kn n = ("cannot go through " : Str) ++ kn n := by decide +kernel
theorem kc5 {S : St} {d : Dv} (h : kc S d = 5) : ∃ n ds, d = .obj n ∧ S.things[n]? = some (.parts ds) := by
  cases d with
  | obj n =>
    have h : kcT S.things[n]? = 5 := h
    cases e : S.things[n]? with
    | none => rw [e] at h; cases h
    | some t =>
      rw [e] at h
      cases t <;> first | exact ⟨n, _, rfl, e⟩ | (cases h; done)
  | _ => cases h
theorem kc6 {S : St} {d : Dv} (h : kc S d = 6) : ∃ n es, d = .obj n ∧ S.things[n]? = some (.table es) := by
  cases d with
  | obj n =>
    have h : kcT S.things[n]? = 6 := h
    cases e : S.things[n]? with
    | none => rw [e] at h; cases h
    | some t =>
      rw [e] at h
      cases t <;> first | exact ⟨n, _, rfl, e⟩ | (cases h; done)
  | _ => cases h
theorem kc3 {S : St} {d : Dv} (h : kc S d = 3) : ∃ x, d = .str x := by
  cases d with
  | obj n =>
    have h : kcT S.things[n]? = 3 := h
    cases e : S.things[n]? with
    | none => rw [e] at h; cases h
    | some t => rw [e] at h; cases t <;> cases h
  | str x => exact ⟨x, rfl⟩
  | _ => cases h
theorem items_none {S : St} {d : Dv} (h3 : kc S d ≠ 3) (h5 : kc S d ≠ 5) (h6 : kc S d ≠ 6) : itemsD S d = none := by
  cases d with
  | obj n =>
    have h5 : kcT S.things[n]? ≠ 5 := h5
    have h6 : kcT S.things[n]? ≠ 6 := h6
    show itemsT S.things[n]? = none
    cases e : S.things[n]? with
    | none => rfl
    | some t =>
      rw [e] at h5 h6
      cases t <;> first | exact absurd rfl h5 | exact absurd rfl h6 | rfl
  | str x => exact absurd rfl h3
  | _ => rfl
def txtOk : Dv → Prop
  | .str x => x.length ≤ 1000
  | _ => True
end
end My
namespace My
open PySem L2 SX XT XS XE XD XL
open C8 (pss_cut tCut cutS_slice pe_gc)
theorem sqt_keep {K : PySem.W.Frag} {H H' : Hp} {p r : Addr} {xs ys : List V} (hk : Keep p H H') (hp : H p = some (.lst ys)) (h : SqT K H r xs) : SqT K H' r xs := by
  rcases h with (h | ⟨ob, h⟩) | h
  · exact .inl (.inl (hk _ _ h fun z => by rw [z, hp] at h; cases h))
  · exact .inl (.inr ⟨ob, hk _ _ h fun z => by rw [z, hp] at h; cases h⟩)
  · exact .inr h
variable {P : Program} {w : World} {K : PySem.W.Frag} {mg : Str → Option Value} {base : Heap} {A : Ads}
def StL (K : PySem.W.Frag) (H : Hp) (a p : Addr) (ns : List Int) : Prop := ∃ x k : Int, H p = some (.lst [.int x, .int k, .ref a]) ∧ 0 ≤ k ∧ SqL K H a (ns.map V.int)
theorem sql_keep {H H' : Hp} {a p : Addr} {x k : Int} {ns : List Int} (hk : Keep p H H') (hp : H p = some (.lst [.int x, .int k, .ref a])) (h : SqL K H a (ns.map V.int)) : SqL K H' a (ns.map V.int) := by
  rcases h with (h | ⟨ob, h⟩) | h
  · refine .inl (.inl (hk _ _ h fun z => ?_))
    rw [z, hp] at h
    have := Option.some.inj h
    injection this with e
    match ns, e with
    | [], e => cases e
    | [_], e => simp at e
    | [_, _], e => simp at e
    | _ :: _ :: _ :: _, e => simp at e
  · refine .inl (.inr ⟨ob, hk _ _ h fun z => ?_⟩)
    rw [z, hp] at h
    cases h
  · exact .inr h
theorem StL.same {H H' : Hp} {a p : Addr} {ns : List Int} (s : Same H H') (h : StL K H a p ns) : StL K H' a p ns := by
  obtain ⟨x, k, h1, h2, h3⟩ := h
  exact ⟨x, k, s _ _ h1, h2, s.seq h3⟩
def spCell (K : PySem.W.Frag) : Sp := fun vs H Q _ => ∃ (a : Addr) (ns : List Int) (k : Int), vs = [.ref a, .int k] ∧ SqL K H a (ns.map V.int) ∧ 0 ≤ k ∧ ∀ c : Int, Q (.int c) H
theorem ok_law_cell (L : Lib P K mg A) : FnOk P w K mg base CX0 1 L.law_cell.f L.law_cell.fd ["script", "k"] (spCell K) := by
  refine L.law_cell.F.ok sc_law_cell (fun vs H Q E h => ?_) (fun cdv A' outer s H vs Q E hr h => ?_)
  · obtain ⟨a, ns, k, rfl, _⟩ := h
    rfl
  · obtain ⟨a, ns, k, rfl, hS, h0, q⟩ := h
    refine ⟨_, pss_cons (ps_if (pt_cmpR op_lt (pv 1) (pe_callB call_len_seq (by rfl) L.z_len PySem.boot_len (pa_cons (pv 0) pa_nil)) (nomark _))
        (pss_one (ps_ret (pe_ix ix_list (pv 0) (pv 1) (fun _ _ => rfl))))
        pss_nil)
      (pss_one (ps_ret pe_int)), ?_⟩
    refine ⟨_, rfl, _, rfl, a, _, rfl, .inl hS, _, _, rfl, rfl, _, rfl, ite2 (fun e => ?_) (fun e => q 0)⟩
    have e1 : k < ((ns.map V.int).length : Nat) := of_decide_eq_true e
    obtain ⟨j, rfl⟩ : ∃ j : Nat, k = (j : Int) := ⟨k.toNat, by omega⟩
    have hj : j < ns.length := by
      rw [List.length_map] at e1
      omega
    refine ⟨_, rfl, _, rfl, a, _, _, V.int ns[j], rfl, rfl, hS, atI_nat ?_, q _⟩
    rw [List.getElem?_map, List.getElem?_eq_getElem hj]
    rfl
def spBegin (K : PySem.W.Frag) : Sp := fun vs H Q _ => ∃ (a : Addr) (ns : List Int) (k : Int), vs = [.ref a, .int k] ∧ SqL K H a (ns.map V.int) ∧ 0 ≤ k ∧ ∀ H' p, H p = none → Same H H' → StL K H' a p ns → Q (.ref p) H'
theorem ok_law_begin (L : Lib P K mg A) : FnOk P w K mg base CX0 1 L.law_begin.f L.law_begin.fd ["script", "k"] (spBegin K) := by
  refine L.law_begin.F.ok sc_law_begin (fun vs H Q E h => ?_) (fun cdv A' outer s H vs Q E hr h => ?_)
  · obtain ⟨a, ns, k, rfl, _⟩ := h
    rfl
  · obtain ⟨a, ns, k, rfl, hS, h0, q⟩ := h
    refine ⟨_, pss_one (ps_ret (pe_lst (pa_cons pe_int (pa_cons (pv 1) (pa_cons (pv 0) pa_nil))))), ?_⟩
    refine ⟨_, rfl, _, rfl, (by show 3 ≤ sizeLine; decide), fun p hp => q _ p hp (same_upd hp) ⟨0, k, upd_same, h0, (same_upd hp).seq hS⟩⟩
def spDraw (K : PySem.W.Frag) : Sp := fun vs H Q _ => ∃ (a p : Addr) (ns : List Int) (many : Int), vs = [.ref p, .int many] ∧ StL K H a p ns ∧ 0 < many ∧ many.natAbs < 2 ^ 80 ∧ ∀ H' (r : Int), Keep p H H' → StL K H' a p ns → 0 ≤ r → r < many → Q (.int r) H'
theorem ok_law_draw (L : Lib P K mg A) : FnOk P w K mg base CX0 2 L.law_draw.f L.law_draw.fd ["state", "many"] (spDraw K) := by
  have GC : FnOk P w K mg base CX0 1 L.law_cell.f L.law_cell.fd ["script", "k"] (spCell K) := ok_law_cell L
  refine L.law_draw.F.ok sc_law_draw (fun vs H Q E h => ?_) (fun cdv A' outer s H vs Q E hr h => ?_)
  · obtain ⟨a, p, ns, many, rfl, _⟩ := h
    rfl
  · obtain ⟨a, p, ns, many, rfl, ⟨x, k, hp, hk, hS⟩, h0, h1, q⟩ := h
    refine ⟨_, pss_cut (ps_if (pt_cmpR op_lt (pe_ix ix_list (pv 0) pe_int (fun _ _ => rfl)) (pv 1) (nomark _))
        (pss_cons (ps_set (i := 2) sc_law_draw.nd rfl (.inl rfl) (pe_ix ix_list (pv 0) pe_int (fun _ _ => rfl)))
        (pss_cons (ps_set (i := 3) sc_law_draw.nd rfl (.inl rfl) (pe_call GC hr (by rfl) L.law_cell.g L.law_cell.F.kp L.law_cell.b .nil pass0 (pa_cons (pe_ix ix_list (pv 0) pe_int (fun _ _ => rfl)) (pa_cons (pv 2) pa_nil))))
        (pss_cons (ps_set (i := 4) sc_law_draw.nd rfl (.inl rfl) pe_int)
        (pss_cons (ps_asg (pe_op op_add (pv 2) pe_int) (pg_sub (pv 0) pe_int set_list))
        (pss_cons (ps_asg (pe_callB call_abs (by rfl) L.z_abs (by decide +kernel) (pa_cons (pv 3) pa_nil)) (pg_sub (pv 0) pe_int set_list))
        (pss_one (ps_if (pt_chain op_lt op_lt (pe_un un_neg pe_int) (pv 3) pe_int)
          (pss_cons (ps_set (i := 5) sc_law_draw.nd rfl (.inl rfl) (pe_op op_mod (pe_callTy call_int1 (by rfl) L.z_int (by decide +kernel) (pa_cons (pe_op op_add (pe_op op_mul (pv 3) pe_int) (pe_op op_mul (pe_op op_add (pv 2) pe_int) pe_int)) pa_nil)) (pv 4)))
          (pss_one (ps_asg (pe_op op_add (pe_op op_mod (pe_callTy call_int1 (by rfl) L.z_int (by decide +kernel) (pa_cons (pe_op op_add (pe_op op_add (pe_op op_mulW (pv 5) (pv 5)) (pe_op op_mul pe_int (pv 5))) (pv 2)) pa_nil)) (pv 4)) (pv 4)) (pg_sub (pv 0) pe_int set_list))))
          pss_nil)))))))
        pss_nil)
      (pss_cons (ps_set (i := 6) sc_law_draw.nd rfl (.inl rfl) (pe_op op_mod (pe_callTy call_int1 (by rfl) L.z_int (by decide +kernel) (pa_cons (pe_ix ix_list (pv 0) pe_int (fun _ _ => rfl)) pa_nil)) (pv 1)))
      (pss_cons (ps_asg (pe_op op_fdivW (pe_ix ix_list (pv 0) pe_int (fun _ _ => rfl)) (pv 1)) (pg_sub (pv 0) pe_int set_list))
      (pss_one (ps_ret (pv 6))))), ?_⟩
    let M : List (Option V) → Hp → Prop := fun σ' H' => ∃ (y2 y3 y4 y5 : Option V) (x k : Int), σ' = [some (.ref p), some (.int many), y2, y3, y4, y5, none] ∧ Keep p H H' ∧ H' p = some (.lst [.int x, .int k, .ref a]) ∧ 0 ≤ k
    refine ⟨M, ⟨_, rfl, p, _, _, _, rfl, rfl, SqL.of hp, rfl, _, rfl, _, _, rfl, rfl, _, rfl, ite2 (fun e => ?_) (fun e => ⟨none, none, none, none, x, k, rfl, fun _ _ e _ => e, hp, hk⟩)⟩, ?_⟩
    · refine ⟨_, rfl, p, _, _, _, rfl, rfl, SqL.of hp, rfl, ?_⟩
      refine ⟨_, rfl, p, _, _, _, rfl, rfl, SqL.of hp, rfl, _, rfl, a, ns, k, rfl, hS, hk, fun cell => ?_⟩
      refine ⟨_, rfl, _, _, rfl, rfl, _, rfl, p, _, _, _, rfl, rfl, hp, rfl, ?_⟩
      refine ⟨_, rfl, _, rfl, _, rfl, p, _, _, _, rfl, rfl, upd_same, rfl, ?_⟩
      have fin : ∀ (z z' : Int) (Hx : Hp), Keep p H Hx → Keep p H (upd Hx p (.lst [.int z, .int z', .ref a])) := fun z z' Hx kx b o e n => by
        rw [upd_ne n]
        exact kx b o e n
      have k0 : Keep p H H := fun _ _ e _ => e
      have kA := fin x (k + 1) H k0
      have kB := fin (if cell < 0 then -cell else cell) (k + 1) _ kA
      have eB : upd (upd H p (.lst [.int x, .int (k + 1), .ref a])) p (.lst [.int (if cell < 0 then -cell else cell), .int (k + 1), .ref a]) p = some (.lst [.int (if cell < 0 then -cell else cell), .int (k + 1), .ref a]) := upd_same
      have done : ∀ (y5 : Option V) (z : Int) (Hx : Hp), Keep p H Hx → Hx p = some (.lst [.int z, .int (k + 1), .ref a]) → M [some (.ref p), some (.int many), some (.int k), some (.int cell), some (.int 618970019642690137449562111), y5, none] Hx := fun y5 z Hx k1 e1 => ⟨_, _, _, _, z, k + 1, rfl, k1, e1, by omega⟩
      refine ⟨_, rfl, _, rfl, _, _, rfl, rfl, _, rfl, ite2 (fun e1 => ⟨_, _, rfl, rfl, _, rfl, ite2 (fun e2 => ?_) (fun _ => done none _ _ kB eB)⟩) (fun _ => ⟨_, rfl, iteF (done none _ _ kB eB)⟩)⟩
      refine ⟨_, rfl, _, _, rfl, rfl, .inr ⟨by decide, by decide⟩, _, rfl, _, _, rfl, rfl, _, _, rfl, rfl, .inr ⟨by decide, by decide⟩, _, _, rfl, rfl, .inl ⟨_, rfl, _, rfl, _, _, rfl, rfl, (by show (0 : Int) < 618970019642690137449562111; decide), ?_⟩⟩
      dsimp only
      have m0 : 0 ≤ (cell * 2654435761 + (k + 1) * 6700417) % 618970019642690137449562111 := Int.emod_nonneg _ (by decide)
      have m1 : (cell * 2654435761 + (k + 1) * 6700417) % 618970019642690137449562111 < 618970019642690137449562111 := Int.emod_lt_of_pos _ (by decide)
      generalize (cell * 2654435761 + (k + 1) * 6700417) % 618970019642690137449562111 = mx at m0 m1 ⊢
      have mb : mx.natAbs < 2 ^ 90 := by
        have : (2 : Nat) ^ 90 = 1237940039285380274899124224 := by decide
        omega
      refine ⟨_, rfl, _, rfl, _, _, rfl, rfl, wide_mul mb mb (by decide) (by decide) (by decide), _, rfl, _, _, rfl, rfl, .inl ⟨by decide, by decide⟩, _, _, rfl, rfl, _, rfl, _, _, rfl, rfl, .inl ⟨_, rfl, _, rfl, _, _, rfl, rfl, (by show (0 : Int) < 618970019642690137449562111; decide), _, rfl, _, _, rfl, rfl, _, rfl, p, _, _, _, rfl, rfl, eB, rfl, ?_⟩⟩
      exact done _ _ _ (fin _ _ _ kB) upd_same
    rintro σ' H' ⟨y2, y3, y4, y5, x', k', rfl, k1, hp', hk'⟩
    refine ⟨_, rfl, p, _, _, _, rfl, rfl, SqL.of hp', rfl, .inl ⟨_, rfl, _, rfl, _, _, rfl, rfl, h0, ?_⟩⟩
    refine ⟨_, rfl, p, _, _, _, rfl, rfl, SqL.of hp', rfl, _, rfl, _, _, rfl, rfl, wide_div h0 h1 (by decide) (by decide), _, rfl, p, _, _, _, rfl, rfl, hp', rfl, ?_⟩
    have k2 : Keep p H (upd H' p (.lst [.int (x' / many), .int k', .ref a])) := fun b o e n => by
      rw [upd_ne n]
      exact k1 b o e n
    exact ⟨_, rfl, q _ _ k2 ⟨_, k', upd_same, hk', sql_keep k2 hp hS⟩ (Int.emod_nonneg _ (by omega)) (Int.emod_lt_of_pos _ h0)⟩
section
variable {P : Program} {w : World} {K : PySem.W.Frag} {mg : Str → Option Value} {base : Heap} {A : Ads}
def spPick (K : PySem.W.Frag) : Sp := fun vs H Q _ => ∃ (a p r : Addr) (ns : List Int) (xs : List V), vs = [.ref p, .ref r] ∧ StL K H a p ns ∧ SqT K H r xs ∧ 0 < xs.length ∧ xs.length ≤ 100 ∧ ∀ H' v, v ∈ xs → Keep p H H' → StL K H' a p ns → Q v H'
theorem ok_law_pick (L : Lib P K mg A) : FnOk P w K mg base CX0 3 L.law_pick.f L.law_pick.fd ["state", "row"] (spPick K) := by
  have GD : FnOk P w K mg base CX0 2 L.law_draw.f L.law_draw.fd ["state", "many"] (spDraw K) := ok_law_draw L
  refine L.law_pick.F.ok sc_law_pick (fun vs H Q E h => ?_) (fun cdv A' outer s H vs Q E hr h => ?_)
  · obtain ⟨a, p, r, ns, xs, rfl, _⟩ := h
    rfl
  · obtain ⟨a, p, r, ns, xs, rfl, hst, ht, h0, h1, q⟩ := h
    refine ⟨_, pss_one (ps_ret (pe_ix ix_tup (pv 1) (pe_call GD hr (by rfl) L.law_draw.g L.law_draw.F.kp L.law_draw.b .nil pass0 (pa_cons (pv 0) (pa_cons (pe_callB call_len_seq (by rfl) L.z_len PySem.boot_len (pa_cons (pv 1) pa_nil)) pa_nil))) (fun _ _ => rfl))), ?_⟩
    refine ⟨_, rfl, _, rfl, _, rfl, r, _, rfl, .inr ht, a, p, ns, _, rfl, hst, by omega, by omega, fun H' i k1 st i0 i1 => ?_⟩
    obtain ⟨j, rfl⟩ : ∃ j : Nat, i = (j : Int) := ⟨i.toNat, by omega⟩
    have hj : j < xs.length := by omega
    obtain ⟨x, k, hp, _⟩ := hst
    exact ⟨r, xs, _, xs[j], rfl, rfl, sqt_keep k1 hp ht, atI_nat (List.getElem?_eq_getElem hj), q H' _ (List.getElem_mem hj) k1 st⟩
end
end My
namespace My
open PySem L2 SX XT XS XE
open C8 (pss_cut tCut cutS_slice pe_gc)
theorem evSE (cda cc : Addr) : (supOf sx_ScriptError "ScriptError.__init__" cda cc).Ev := fun env => ⟨⟨_, by rfl⟩, by rfl, by rfl⟩
theorem bodySE (cda cc : Addr) : defBody sx_ScriptError = (supOf sx_ScriptError "ScriptError.__init__" cda cc).body := by rfl
theorem scSE : NdefX.NScope ["self", "kind", "message", "__class__"] ["self", "kind", "message"] ["__class__"] (defScope sx_ScriptError) := NdefX.nscope_by (by decide +kernel)
section
variable {P : Program} {w : World} {K : PySem.W.Frag} {mg : Str → Option Value} {base : Heap} {cE fI cda cc : Addr}
theorem lt_len {s : Str} (h : s.length ≤ 100000) : s.length ≤ sizeLine := by rw [sizeLine_eq]; omega
theorem ok_SE {dV kV doc pm ct oc : Value} {an od : Option Addr} {osl : Array (Option Value)} (lk : K.lookup fI = some ⟨oc, od, .func (PySem.W.ksFn "__init__" "ScriptError.__init__" (defArgs sx_ScriptError) (defBody sx_ScriptError) (defScope sx_ScriptError) dV kV doc pm an (.ref cda) ct cc), osl⟩)
    (hcd : PySem.W.codeIn K (.ref cda) "ScriptError.__init__" = true) (T : Exn P K mg cE fI "kind" "message") (U : Sup P K mg cda cc cE cE) :
    FnOk P w K mg base CX0 1 fI (PySem.W.ksFn "__init__" "ScriptError.__init__" (defArgs sx_ScriptError) (defBody sx_ScriptError) (defScope sx_ScriptError) dV kV doc pm an (.ref cda) ct cc) ["self", "kind", "message"] (spTwo cE "kind" "message") := by
  refine fn_super (D := cE) (F := supOf sx_ScriptError "ScriptError.__init__" cda cc) lk hcd scSE rfl rfl (show (defScope sx_ScriptError).names.lookup ("super" : Str) = some .globalImplicit by decide +kernel) (evSE cda cc) (fun vs H Q E h => ?_) (fun A outer s H vs Q E hr h => ?_)
  · obtain ⟨a, v1, v2, rfl, _⟩ := h
    rfl
  · obtain ⟨a, v1, v2, rfl, ha, ⟨k1, rfl, z1⟩, ⟨k2, rfl, z2⟩, q⟩ := h
    refine ⟨a, cE, _, _, rfl, ha, T.oex, U, pa_cons (pe_joined (.cons (pe_fmt (pv 1)) (.cons pe_str (.cons (pe_fmt (pv 2)) .nil)))) pa_nil, pss_cons (ps_ost (pv 0) (pv 1)) (pss_one (ps_ost (pv 0) (pv 2))), ?_⟩
    have l0 : (Str.empty : Str).length = 0 := by decide +kernel
    have l2 : ((": " : Str)).length = 2 := by decide +kernel
    refine ⟨_, rfl, .inl ⟨k1, rfl, lt_len z1, k1, rfl, ?_, ?_⟩⟩
    · rw [Str.length_append, l0, sizeLine_eq]
      omega
    · refine ⟨_, rfl, ?_, _, rfl, .inl ⟨k2, rfl, lt_len z2, k2, rfl, ?_, ?_⟩⟩
      · rw [Str.length_append, Str.length_append, l0, l2, sizeLine_eq]
        omega
      · rw [Str.length_append, Str.length_append, Str.length_append, l0, l2, sizeLine_eq]
        omega
      · refine ⟨by show 1 ≤ 1000; omega, ha, ?_⟩
        refine ⟨_, rfl, _, rfl, a, cE, rfl, T.oex, T.n1, .inl ⟨ha, fun d hd hne => ?_⟩⟩
        refine ⟨_, rfl, _, rfl, a, cE, rfl, T.oex, T.n2, .inr ⟨d, [("kind", .str k1)], upd_same, ?_, (by show 1 ≤ 900; omega), ?_⟩⟩
        · rw [upd_ne hne]
          exact upd_same
        · exact q d hd hne
end
end My
namespace My
open PySem L2
section
variable {X : Cx} {d : Addr} {es : Array DictEntry} {n : Nat}
/-- d.get(key), d a written dict -/
theorem mt_kget (D : KDict X.K X.w d es n) : MtR X "dict.get" (fun x xs H Q => ∃ (z : Str) (r : Option Value), x = .ref d ∧ xs = [.str z] ∧ PySem.W.nsIn X.K d z = some r ∧ ((r = none ∧ Q .non H) ∨ ∃ u v, r = some u ∧ RelV v u ∧ Q v H)) := by
  intro pins s σ H x xs v us Q I rx rs h
  obtain ⟨z, r, rfl, rfl, e, q⟩ := h
  cases rx
  obtain ⟨u, rfl, t, rfl⟩ := rs.one
  have M := PySem.W.mapOf_K (prog := X.prog) (w := X.w) I.kIn D.at_ D.lit
  refine call_meetsIn PySem.F.slot_dict_get M.typeIs PySem.F.entry_dict_get (PySem.F.args_dict_get_2 _ _) (PySem.meets_dict_get _ d (PySem.strKind_is X.prog X.w z t) D.low) ⟨_, M, ?_⟩
  rw [PySem.W.find_K D.at_ e]
  rcases q with ⟨rfl, q⟩ | ⟨u, v, rfl, r, q⟩
  · exact ⟨.non, H, I.tok _, rfl, q⟩
  · exact ⟨v, H, I.tok _, r, q⟩
end
end My
namespace My
open PySem L2
def tKGet (K : PySem.W.Frag) (to : TE) (te : TE) (d : Addr) : TE := fun σ H Q => to σ H fun x H1 => x = .ref d ∧ tCons te tNil σ H1 fun xs H2 => ∃ y, xs = [y] ∧ ∃ (z : Str) (r : Option Value), y = .str z ∧ PySem.W.nsIn K d z = some r ∧ ((r = none ∧ Q .non H2) ∨ ∃ u v, r = some u ∧ RelV v u ∧ Q v H2)
theorem pe_kget {X : Cx} {d : Addr} {es : Array DictEntry} {n : Nat} {o e : Expr} {to te : TE} {apos cpos : Pos} (D : KDict X.K X.w d es n) (ho : PE X o to) (he : PE X e te)
    (hbase : attributeBase o "get" X.env (eval o X.env) = eval o X.env := by rfl)
    (hfew : ((backTo cpos (starEach [e] X.env)).all (fun x => !x.1) && (backToKw cpos (keywordEach [] X.env)).all (fun x => x.1.isSome)
      && decide ([e].length + ([] : List Keyword).length + (if ([] : List Keyword).isEmpty then 0 else 1) < 30)) = true := by rfl)
    (hline : (apos.endLine == cpos.line) = true := by rfl) (hs : starEach [e] X.env = (false, eval e X.env) :: starEach [] X.env := by rfl) (hplain : (backTo cpos (starEach [] X.env)).any (·.1) = false := by rfl) :
    PE X (.Call (.Attribute o "get" apos) [e] [] cpos) (tKGet X.K to te d) := by
  have ha : PA X [e] (tCons te tNil) := pa_cons he pa_nil (hs := hs)
  refine ⟨fun pins s σ H Q I h => ?_⟩
  refine wpAny_Call_method_late hbase hfew hline rfl (thn (ho.run pins s σ H _ I h) fun v s1 ⟨x, H1, I1, r1, hx, q1⟩ => ?_)
  subst hx
  cases r1
  have M := PySem.W.mapOf_K (prog := X.prog) (w := X.w) I1.kIn D.at_ D.lit
  refine ⟨"dict", "dict.get", PySem.F.plainAttrs_dict, PySem.F.slot_dict_get, PySem.F.type_dict_get, M.typeIs, (fun a e => ?_), ?_⟩
  · cases e
    exact ⟨_, I1.kIn _ _ D.at_, rfl⟩
  · have hA := ha.run cpos pins s1 σ H1 _ I1 (show tCons te tNil σ H1 (fun xs H2 => ∃ y, xs = [y] ∧ ∃ (z : Str) (r : Option Value), y = .str z ∧ PySem.W.nsIn X.K d z = some r ∧ ((r = none ∧ Q .non H2) ∨ ∃ u v, r = some u ∧ RelV v u ∧ Q v H2)) from q1)
    rw [hs] at hA ⊢
    refine Calls.callWith_builtin (by show (false || (backTo cpos (starEach [] X.env)).any (·.1)) = false; rw [hplain] <;> rfl) (Calls.evalArgs_plain ?_)
    refine thn hA fun us s2 ⟨vs, H2, I2, r2, y, hy, z, r, hz, e, q2⟩ => ?_
    subst hy hz
    exact mt_kget D pins s2 σ H2 (.ref d) [.str z] (.ref d) us Q I2 rfl r2 ⟨z, r, rfl, rfl, e, q2⟩
end My
namespace My
open PySem L2 SX XT XS XE XD XL XZ
open C8 (pss_cut tCut cutS_slice pe_gc)
theorem emp_app (x : Str) : Str.empty ++ x = x := by
  cases x with
  | mk a =>
    show Str.mk (#[] ++ a) = Str.mk a
    rw [Array.empty_append]
theorem lt5 {x : Str} (h : x.length ≤ 100000) : x.length ≤ sizeLine := Nat.le_trans h (by decide)
theorem nd {p : Prop} [Decidable p] (h : ¬ decide p = true) : ¬ p := fun z => h (decide_eq_true z)
theorem Same.rf {H : Hp} : Same H H := fun _ _ e => e
theorem Err.mono {E E' : XK} {C : Addr} {H : Hp} {k m : Str} (he : ∀ c d H', E c d H' → E' c d H') (h : Err E C H k m) : Err E' C H k m := fun d hd => he _ _ _ (h d hd)
section
variable {P : Program} {w : World} {K : PySem.W.Frag} {mg : Str → Option Value} {base : Heap} {A : Ads}
def spCSX (A : Ads) : Sp := fun vs H Q E => ∃ i : Int, vs = [.int i] ∧ (i ≤ 1000 → Q .non H) ∧ (1000 < i → Err E A.ScriptError H "SizeError" "too large")
theorem ok_check_sizeX (L : Lib P K mg A) : FnOk P w K mg base (L2.CX P w) 3 L.check_size.f L.check_size.fd ["size"] (spCSX A) := by
  refine L.check_size.F.okX sc_check_size (fun vs H Q E h => ?_) (fun cdv A' outer s H vs Q E hr h => ?_)
  · obtain ⟨i, rfl, _⟩ := h
    rfl
  · obtain ⟨i, rfl, q1, q2⟩ := h
    refine ⟨_, (pss_one (ps_if (pt_cmpR op_gt (pv 0) (pe_glob (v := .int 1000) (by rfl) L.v_MOST_HELD.choose_spec ⟨_, rfl⟩) (nomark _))
        (pss_one (ps_raise2 rfl L.x_ScriptError.T (L.x_ScriptError.F _ _) (hr.mono (by omega)) (takes_of rfl rfl rfl rfl) L.x_ScriptError.b (by rfl) L.x_ScriptError.g (pa_cons pe_str (pa_cons pe_str pa_nil))))
        pss_nil)), ?_⟩
    refine ⟨_, rfl, _, _, rfl, rfl, _, rfl, ite_or (fun e => ?_) fun e => ?_⟩
    · exact made2 (by decide +kernel) (by decide +kernel) (q2 (of_decide_eq_true e))
    · exact q1 (by have := of_decide_eq_false e; omega)
/-- a new list, or too large -/
def NewOr (P : Program) (w : World) (A : Ads) (a : Sa) (S : St) (H : Hp) (ds : List Dv) (Q : VK) (E : XK) : Prop :=
  (ds.length ≤ 1000 → New P w A a S H (.parts ds) Q) ∧ (1000 < ds.length → ∀ H', Same H H' → Err E A.ScriptError H' "SizeError" "too large")
theorem New.same {a : Sa} {S : St} {H H' : Hp} {d : Th} {Q : VK} (s : Same H H') (n : New P w A a S H d Q) : New P w A a S H' d Q := fun H2 r a' ev sm hr => n H2 r a' ((Ev.same s).trans ev) sm hr
theorem NewOr.same {a : Sa} {S : St} {H H' : Hp} {ds : List Dv} {Q : VK} {E : XK} (s : Same H H') (n : NewOr P w A a S H ds Q E) : NewOr P w A a S H' ds Q E := ⟨fun h => (n.1 h).same s, fun h H2 s2 => n.2 h H2 (s.trans s2)⟩
def spMLX (P : Program) (w : World) (K : PySem.W.Frag) (A : Ads) : Sp := fun vs H Q E => ∃ (a : Sa) (S : St) (l : Addr) (us : List V) (ds : List Dv), vs = [.ref a.s, .ref l] ∧ SM P w A H a S ∧ SqL K H l us ∧ Hs A H us ds ∧ S.things.length < 100000 ∧ NewOr P w A a S H ds Q E
theorem ok_make_listX (L : Lib P K mg A) : FnOk P w K mg base (L2.CX P w) 5 L.make_list.f L.make_list.fd ["store", "values"] (spMLX P w K A) := by
  have G_check_sizeX : FnOk P w K mg base (L2.CX P w) 3 L.check_size.f L.check_size.fd ["size"] (spCSX A) := ok_check_sizeX L
  have G_Store_make : FnOk P w K mg base CX0 3 L.Store_make.f L.Store_make.fd ["self", "thing"] (spMake P w A) := ok_Store_make L
  have G_Parts_init : FnOk P w K mg base CX0 1 L.Parts_init.f L.Parts_init.fd ["self", "held"] (spHI A.Parts "held" K) := ok_Parts_init L
  refine L.make_list.F.okX sc_make_list (fun vs H Q E h => ?_) (fun cdv A' outer s H vs Q E hr h => ?_)
  · obtain ⟨a, S, l, us, ds, rfl, _⟩ := h
    rfl
  · obtain ⟨a, S, l, us, ds, rfl, hS, hl, hd, hb, qn, qe⟩ := h
    have hul := hd.len
    refine ⟨_, (pss_cons (ps_expr (pe_callS G_check_sizeX (hr.mono (by omega)) (by rfl) L.check_size.g L.check_size.F.kp L.check_size.b (fun σ => passAt (takes_of rfl rfl rfl rfl) σ) (pa_cons (pe_callB call_len_seq (by rfl) L.z_len PySem.boot_len (pa_cons (pv 1) pa_nil)) pa_nil)))
      (pss_one (ps_ret (pe_meth (pv 0) L.c_Store.cl L.Store_make.m G_Store_make (hr.mono (by omega)) L.Store_make.b .nil pass0 (pa_cons (pe_make L.Parts_init.m G_Parts_init (hr.mono (by omega)) (by rfl) L.c_Parts.g L.Parts_init.b .nil pass0 (pa_cons (pv 1) pa_nil)) pa_nil))))), ?_⟩
    refine ⟨_, rfl, l, us, rfl, .inl hl, _, rfl, fun hn => ?_, fun hn => ?_⟩
    · obtain ⟨dx, h1⟩ := hS.s_
      refine ⟨_, rfl, a.s, dx, _, rfl, h1, st_no _ _ _ _ (by decide +kernel) (by decide +kernel) (by decide +kernel) (by decide +kernel), _, rfl, ?_⟩
      intro x dy nx ndx ndxx
      have sm0 : Same H (upd (upd H dy (.own x)) x (.ins A.Parts dy [])) := fun b u e => by
        rw [upd_ne (ne_of_none e nx), upd_ne (ne_of_none e ndx)]
        exact e
      refine ⟨x, dy, l, us, rfl, upd_same, sm0.seq hl, fun H1 m k1 hx nm hm => ⟨rfl, ?_⟩⟩
      have s1 := Same.made nx ndx k1
      have nm0 : H m = none := sm0.free nm
      obtain ⟨g1, g2, g3⟩ := hS.grow L s1 nx nm0
      refine ⟨a, S, x, m, .parts ds, rfl, hS.same s1, ⟨dy, us, hx, hm, hd.imp fun _ _ h => h.sv (Same.sv s1)⟩, g1, g2, hb, fun H2 r k2 hS2 nr hr2 => ?_⟩
      exact qn (by omega) H2 r _ (g3 H2 k2) hS2 hr2
    · exact qe (by omega) H fun _ _ e => e
/-! ### places -/
def spCP (A : Ads) : Sp := fun vs H Q E => ∃ (i n : Int), vs = [.int i, .int n] ∧ (0 ≤ i ∧ i < n → Q .non H) ∧ (¬ (0 ≤ i ∧ i < n) → Err E A.ScriptError H "IndexError" "index out of range")
theorem ok_check_place (L : Lib P K mg A) : FnOk P w K mg base (L2.CX P w) 3 L.check_place.f L.check_place.fd ["index", "length"] (spCP A) := by
  refine L.check_place.F.okX sc_check_place (fun vs H Q E h => ?_) (fun cdv A' outer s H vs Q E hr h => ?_)
  · obtain ⟨i, n, rfl, _⟩ := h
    rfl
  · obtain ⟨i, n, rfl, q1, q2⟩ := h
    refine ⟨_, (pss_one (ps_if (pt_not (pt_chain op_le op_lt pe_int (pv 0) (pv 1)))
        (pss_one (ps_raise2 rfl L.x_ScriptError.T (L.x_ScriptError.F _ _) (hr.mono (by omega)) (takes_of rfl rfl rfl rfl) L.x_ScriptError.b (by rfl) L.x_ScriptError.g (pa_cons pe_str (pa_cons pe_str pa_nil))))
        pss_nil)), ?_⟩
    refine ⟨_, rfl, _, _, rfl, rfl, _, rfl, ite2 (fun h => ⟨_, rfl, _, _, rfl, rfl, _, rfl, ?_⟩) (fun h => ⟨_, rfl, ?_⟩)⟩
    · have h := of_decide_eq_true h
      by_cases h2 : i < n
      · rw [decide_eq_true h2]
        exact iteF (q1 ⟨h, h2⟩)
      · rw [decide_eq_false h2]
        exact iteT (made2 (by decide +kernel) (by decide +kernel) (q2 fun z => h2 z.2))
    · exact iteT (made2 (by decide +kernel) (by decide +kernel) (q2 fun z => nd h z.1))
def spCG (A : Ads) : Sp := fun vs H Q E => ∃ (i n : Int), vs = [.int i, .int n] ∧ (0 ≤ i ∧ i ≤ n → Q .non H) ∧ (¬ (0 ≤ i ∧ i ≤ n) → Err E A.ScriptError H "IndexError" "index out of range")
theorem ok_check_gap (L : Lib P K mg A) : FnOk P w K mg base (L2.CX P w) 4 L.check_gap.f L.check_gap.fd ["index", "length"] (spCG A) := by
  have G_check_place : FnOk P w K mg base (L2.CX P w) 3 L.check_place.f L.check_place.fd ["index", "length"] (spCP A) := ok_check_place L
  refine L.check_gap.F.okX sc_check_gap (fun vs H Q E h => ?_) (fun cdv A' outer s H vs Q E hr h => ?_)
  · obtain ⟨i, n, rfl, _⟩ := h
    rfl
  · obtain ⟨i, n, rfl, q1, q2⟩ := h
    refine ⟨_, (pss_one (ps_expr (pe_callS G_check_place (hr.mono (by omega)) (by rfl) L.check_place.g L.check_place.F.kp L.check_place.b (fun σ => passAt (takes_of rfl rfl rfl rfl) σ) (pa_cons (pv 0) (pa_cons (pe_op op_add (pv 1) pe_int) pa_nil))))), ?_⟩
    exact ⟨_, rfl, _, rfl, _, _, rfl, rfl, i, n + 1, rfl, fun h => q1 (by omega), fun h => q2 (by omega)⟩
def spCGs (A : Ads) : Sp := fun vs H Q E => ∃ (i j n : Int), vs = [.int i, .int j, .int n] ∧ (0 ≤ i ∧ i ≤ j ∧ j ≤ n → Q .non H) ∧ (¬ (0 ≤ i ∧ i ≤ j ∧ j ≤ n) → Err E A.ScriptError H "IndexError" "index out of range")
theorem ok_check_gaps (L : Lib P K mg A) : FnOk P w K mg base (L2.CX P w) 5 L.check_gaps.f L.check_gaps.fd ["start", "stop", "length"] (spCGs A) := by
  have G_check_gap : FnOk P w K mg base (L2.CX P w) 4 L.check_gap.f L.check_gap.fd ["index", "length"] (spCG A) := ok_check_gap L
  refine L.check_gaps.F.okX sc_check_gaps (fun vs H Q E h => ?_) (fun cdv A' outer s H vs Q E hr h => ?_)
  · obtain ⟨i, j, n, rfl, _⟩ := h
    rfl
  · obtain ⟨i, j, n, rfl, q1, q2⟩ := h
    refine ⟨_, (pss_cons (ps_expr (pe_callS G_check_gap (hr.mono (by omega)) (by rfl) L.check_gap.g L.check_gap.F.kp L.check_gap.b (fun σ => passAt (takes_of rfl rfl rfl rfl) σ) (pa_cons (pv 1) (pa_cons (pv 2) pa_nil))))
      (pss_one (ps_expr (pe_callS G_check_gap (hr.mono (by omega)) (by rfl) L.check_gap.g L.check_gap.F.kp L.check_gap.b (fun σ => passAt (takes_of rfl rfl rfl rfl) σ) (pa_cons (pv 0) (pa_cons (pv 1) pa_nil)))))), ?_⟩
    refine ⟨_, rfl, _, rfl, j, n, rfl, fun h => ?_, fun h => q2 (by omega)⟩
    exact ⟨_, rfl, _, rfl, i, j, rfl, fun h2 => q1 (by omega), fun h2 => q2 (by omega)⟩
/-! ### arguments -/
def arM (n m : Nat) : Str := ("expected " : Str) ++ (toString ((n : Nat) : Int) : String) ++ (" arguments, got " : Str) ++ (toString ((m : Nat) : Int) : String)
theorem arM_len : ∀ n, n < 12 → ∀ m, m < 12 → (arM n m).length ≤ 100000 ∧ (("expected " : Str) ++ ((toString ((n : Nat) : Int) : String) : Str)).length ≤ 100000 ∧ (("expected " : Str) ++ ((toString ((n : Nat) : Int) : String) : Str) ++ (" arguments, got " : Str)).length ≤ 100000 := by decide +kernel
theorem log_small : ∀ n, n < 12 → ((n : Nat) : Int).natAbs.log2 < 1920 := by decide +kernel
def spCCX (K : PySem.W.Frag) (A : Ads) : Sp := fun vs H Q E => ∃ l xs n, vs = [.ref l, .int ((n : Nat) : Int)] ∧ SqL K H l xs ∧ xs.length ≤ 10 ∧ n ≤ 10 ∧ (xs.length = n → Q .non H) ∧ (xs.length ≠ n → Err E A.ScriptError H "ArityError" (arM n xs.length))
theorem ok_check_countX (L : Lib P K mg A) : FnOk P w K mg base (L2.CX P w) 3 L.check_count.f L.check_count.fd ["values", "wanted"] (spCCX K A) := by
  refine L.check_count.F.okX sc_check_count (fun vs H Q E h => ?_) (fun cdv A' outer s H vs Q E hr h => ?_)
  · obtain ⟨l, xs, n, rfl, _⟩ := h
    rfl
  · obtain ⟨l, xs, n, rfl, hl, hz, hn, q1, q2⟩ := h
    refine ⟨_, (pss_one (ps_if (pt_cmpR op_ne (pe_callB call_len_seq (by rfl) L.z_len PySem.boot_len (pa_cons (pv 0) pa_nil)) (pv 1) (nomark _))
        (pss_one (ps_raise2 rfl L.x_ScriptError.T (L.x_ScriptError.F _ _) (hr.mono (by omega)) (takes_of rfl rfl rfl rfl) L.x_ScriptError.b (by rfl) L.x_ScriptError.g (pa_cons pe_str (pa_cons (pe_joined (.cons pe_str (.cons (pe_fmt (pv 1)) (.cons pe_str (.cons (pe_fmt (pe_callB call_len_seq (by rfl) L.z_len PySem.boot_len (pa_cons (pv 0) pa_nil))) .nil))))) pa_nil))))
        pss_nil)), ?_⟩
    refine ⟨_, rfl, l, xs, rfl, .inl hl, _, rfl, rfl, _, rfl, ?_⟩
    by_cases e : xs.length = n
    · subst e
      exact ite2 (fun h => by simp at h) fun _ => q1 rfl
    · refine ite2 (fun _ => ?_) fun h => by simp at h; omega
      obtain ⟨b1, b2, b3⟩ := arM_len n (by omega) xs.length (by omega)
      refine ⟨_, rfl, lt5 (by decide +kernel), _, rfl, .inr ⟨_, rfl, log_small n (by omega), _, rfl, ?_, _, rfl, ?_, ?_⟩⟩
      · rw [emp_app]; exact lt5 b2
      · rw [emp_app]; exact lt5 b3
      refine ⟨_, rfl, l, xs, rfl, .inl hl, .inr ⟨_, rfl, log_small _ (by omega), _, rfl, ?_, ?_⟩⟩
      · rw [emp_app]; exact lt5 b1
      · rw [emp_app]
        exact made2 (by decide +kernel) b1 (q2 e)
def fits (S : St) (d : Dv) (k : Str) : Bool := decide (k = "any") || decide (k = kindD S d)
def kinds3 : List Str := ["any", "integer", "list", "text"]
theorem kinds3_key : ∀ k ∈ kinds3, decide (V.str k = V.str "key") = false ∧ decide (V.str k = V.str "any") = decide (k = "any") := by decide +kernel
def spCKX (P : Program) (w : World) (A : Ads) : Sp := fun vs H Q E => ∃ (a : Sa) (S : St) (v : V) (d : Dv) (k : Str), vs = [.ref a.s, v, .str k] ∧ SM P w A H a S ∧ Has A H v d ∧ okV S d ∧ k ∈ kinds3 ∧ (fits S d k = true → Q .non H) ∧ (fits S d k = false → Err E A.ScriptError H "KindError" "wrong argument")
theorem ok_check_kind (L : Lib P K mg A) : FnOk P w K mg base (L2.CX P w) 3 L.check_kind.f L.check_kind.fd ["store", "value", "kind"] (spCKX P w A) := by
  have G_kind_of : FnOk P w K mg base CX0 2 L.kind_of.f L.kind_of.fd ["store", "value"] (spKO P w A) := ok_kind_of L
  have G_is_key : FnOk P w K mg base CX0 1 L.is_key.f L.is_key.fd ["value"] (spIK A) := ok_is_key L
  refine L.check_kind.F.okX sc_check_kind (fun vs H Q E h => ?_) (fun cdv A' outer s H vs Q E hr h => ?_)
  · obtain ⟨a, S, v, d, k, rfl, _⟩ := h
    rfl
  · obtain ⟨a, S, v, d, k, rfl, hS, hv, ho, hk, q1, q2⟩ := h
    obtain ⟨k1, k2⟩ := kinds3_key k hk
    refine ⟨_, (pss_cons (ps_if (PW.pt (pw_or (pt_cmpR op_eq (pv 2) pe_str (nomark _)) (pw_or1 (pt_cmpR op_eq (pv 2) (pe_call G_kind_of (hr.mono (by omega)) (by rfl) L.kind_of.g L.kind_of.F.kp L.kind_of.b .nil pass0 (pa_cons (pv 0) (pa_cons (pv 1) pa_nil))) (nomark _)))))
        (pss_one ps_retN)
        pss_nil)
      (pss_cons (ps_if (PW.pt (pw_and (pt_cmpR op_eq (pv 2) pe_str (nomark _)) (pw_and1 (pt_val (pe_call G_is_key (hr.mono (by omega)) (by rfl) L.is_key.g L.is_key.F.kp L.is_key.b .nil pass0 (pa_cons (pv 1) pa_nil))))))
        (pss_one ps_retN)
        pss_nil)
      (pss_one (ps_raise2 rfl L.x_ScriptError.T (L.x_ScriptError.F _ _) (hr.mono (by omega)) (takes_of rfl rfl rfl rfl) L.x_ScriptError.b (by rfl) L.x_ScriptError.g (pa_cons pe_str (pa_cons pe_str pa_nil)))))), ?_⟩
    refine ⟨_, rfl, rfl, _, rfl, ite_or (fun h => iteT (q1 ?_)) fun h => ?_⟩
    · rw [k2] at h
      unfold fits
      rw [h, Bool.true_or]
    rw [k2] at h
    refine ⟨_, rfl, _, rfl, _, rfl, a, S, v, d, rfl, hS, hv, ho, rfl, _, rfl, ?_⟩
    refine ite_or (fun e => q1 ?_) fun e => ?_
    · unfold fits
      rw [h, Bool.false_or]
      have := of_decide_eq_true e
      injection this with this
      exact decide_eq_true this
    refine ⟨_, rfl, rfl, _, rfl, ?_⟩
    rw [k1]
    refine iteF (iteF ?_)
    refine made2 (by decide +kernel) (by decide +kernel) (q2 ?_)
    unfold fits
    rw [h, Bool.false_or]
    have := of_decide_eq_false e
    exact decide_eq_false fun z => this (by rw [z])
/-- all arguments fit -/
def fitsA (S : St) : List Dv → List Str → Bool
  | d :: ds, k :: ks => fits S d k && fitsA S ds ks
  | _, _ => true
theorem fitsA_take {S : St} : ∀ {ds : List Dv} {ks : List Str} {i : Nat} {d : Dv} {k : Str}, fitsA S (ds.take i) (ks.take i) = true → ds[i]? = some d → ks[i]? = some k → fits S d k = false → fitsA S ds ks = false
  | d :: ds, k :: ks, 0, _, _, _, e1, e2, h => by
    simp at e1 e2
    subst e1 e2
    simp [fitsA, h]
  | d :: ds, k :: ks, i + 1, _, _, g, e1, e2, h => by
    simp at e1 e2
    simp only [List.take_succ_cons, fitsA, Bool.and_eq_true] at g
    have := fitsA_take g.2 e1 e2 h
    simp [fitsA, this]
  | [], _, _, _, _, _, e1, _, _ => by simp at e1
  | _ :: _, [], _, _, _, _, _, e2, _ => by simp at e2
theorem fitsA_snoc {S : St} : ∀ {ds : List Dv} {ks : List Str} {i : Nat} {d : Dv} {k : Str}, fitsA S (ds.take i) (ks.take i) = true → ds[i]? = some d → ks[i]? = some k → fits S d k = true → fitsA S (ds.take (i + 1)) (ks.take (i + 1)) = true
  | d :: ds, k :: ks, 0, _, _, _, e1, e2, h => by
    simp at e1 e2
    subst e1 e2
    simp [fitsA, h]
  | d :: ds, k :: ks, i + 1, _, _, g, e1, e2, h => by
    simp at e1 e2
    simp only [List.take_succ_cons, fitsA, Bool.and_eq_true] at g ⊢
    exact ⟨g.1, fitsA_snoc g.2 e1 e2 h⟩
  | [], _, _, _, _, _, e1, _, _ => by simp at e1
  | _ :: _, [], _, _, _, _, _, e2, _ => by simp at e2
theorem Hs.atv {A : Ads} {H : Hp} : ∀ {vs : List V} {ds : List Dv} {i : Nat} {v : V}, Hs A H vs ds → vs[i]? = some v → ∃ d, ds[i]? = some d ∧ Has A H v d
  | _ :: _, _ :: _, 0, _, h, e => by
    simp at e
    exact ⟨_, rfl, e ▸ h.1⟩
  | _ :: _, _ :: _, i + 1, _, h, e => by
    simp at e
    obtain ⟨v, e1, e2⟩ := Hs.atv h.2 e
    exact ⟨v, by simpa using e1, e2⟩
  | [], _ :: _, _, _, h, _ => h.elim
  | _ :: _, [], _, _, h, _ => h.elim
  | [], [], _, _, _, e => by simp at e
def spCAX (P : Program) (w : World) (K : PySem.W.Frag) (A : Ads) : Sp := fun vs H Q E => ∃ (a : Sa) (S : St) (l t : Addr) (us : List V) (ds : List Dv) (ks : List Str), vs = [.ref a.s, .ref l, .ref t] ∧ SM P w A H a S ∧ SqL K H l us ∧ Hs A H us ds ∧ (∀ d ∈ ds, okV S d) ∧ ds.length ≤ 10 ∧
  (∀ H, SqT K H t (ks.map V.str)) ∧ (∀ k ∈ ks, k ∈ kinds3) ∧ ks.length ≤ 10 ∧ (ds.length ≠ ks.length → Err E A.ScriptError H "ArityError" (arM ks.length ds.length)) ∧
  (ds.length = ks.length → ∀ H', Same H H' → (fitsA S ds ks = true → Q .non H') ∧ (fitsA S ds ks = false → Err E A.ScriptError H' "KindError" "wrong argument"))
theorem ok_check_arguments (L : Lib P K mg A) : FnOk P w K mg base (L2.CX P w) 4 L.check_arguments.f L.check_arguments.fd ["store", "values", "kinds"] (spCAX P w K A) := by
  have G_check_countX : FnOk P w K mg base (L2.CX P w) 3 L.check_count.f L.check_count.fd ["values", "wanted"] (spCCX K A) := ok_check_countX L
  have G_check_kind : FnOk P w K mg base (L2.CX P w) 3 L.check_kind.f L.check_kind.fd ["store", "value", "kind"] (spCKX P w A) := ok_check_kind L
  refine L.check_arguments.F.okX sc_check_arguments (fun vs H Q E h => ?_) (fun cdv A' outer s H vs Q E hr h => ?_)
  · obtain ⟨a, S, l, t, us, ds, ks, rfl, _⟩ := h
    rfl
  · obtain ⟨a, S, l, t, us, ds, ks, rfl, hS, hl, hd, ho, hz, ht, hk, hkz, q1, q2⟩ := h
    have hul := hd.len
    refine ⟨_, (pss_cons (ps_expr (pe_callS G_check_countX (hr.mono (by omega)) (by rfl) L.check_count.g L.check_count.F.kp L.check_count.b (fun σ => passAt (takes_of rfl rfl rfl rfl) σ) (pa_cons (pv 1) (pa_cons (pe_callB call_len_seq (by rfl) L.z_len PySem.boot_len (pa_cons (pv 2) pa_nil)) pa_nil))))
      (pss_one (ps_for (passes_of rfl) rfl (pi_zipM (by rfl) L.z_zip (pa_cons (pv 1) (pa_cons (pv 2) pa_nil))) (pg_tup (by rfl) (pgs_cons (pg_name (i := 3) sc_check_arguments.nd rfl (.inl rfl)) (pgs_cons (pg_name (i := 4) sc_check_arguments.nd rfl (.inl rfl)) pgs_nil)))
        (pss_one (ps_expr (pe_callS G_check_kind (hr.mono (by omega)) (by rfl) L.check_kind.g L.check_kind.F.kp L.check_kind.b (fun σ => passAt (takes_of rfl rfl rfl rfl) σ) (pa_cons (pv 0) (pa_cons (pv 3) (pa_cons (pv 4) pa_nil))))))))), ?_⟩
    refine ⟨_, rfl, _, rfl, t, _, rfl, .inr (ht H), l, us, ks.length, by rw [List.length_map], hl, by omega, hkz, fun len => ?_, fun ne => by rw [hul]; exact q1 (by omega)⟩
    have q := q2 (by omega)
    refine ⟨_, rfl, _, rfl, l, t, us, _, rfl, hl, ht H, for_zipM (show us.length = (ks.map V.str).length by rw [List.length_map]; exact len) (fun i σ H' => ∃ y3 y4 : Option V, σ = [some (.ref a.s), some (.ref l), some (.ref t), y3, y4] ∧ Same H H' ∧ fitsA S (ds.take i) (ks.take i) = true) ⟨none, none, rfl, Same.rf, by simp [fitsA]⟩ (fun i σ H' h => ?_) ?_ ?_⟩
    · obtain ⟨_, _, _, s1, _⟩ := h
      exact ⟨s1.seq hl, ht H'⟩
    · rintro i x y T σ H1 hx hy ⟨y3, y4, rfl, s1, ff⟩ hT
      rw [List.getElem?_map] at hy
      cases hki : ks[i]? with
      | none => rw [hki] at hy; cases hy
      | some k =>
        rw [hki] at hy
        cases hy
        obtain ⟨d, hdi, hxd⟩ := hd.atv hx
        have s2 : Same H (upd H1 T (.tup [x, .str k])) := s1.trans (same_upd hT)
        refine ⟨T, [x, .str k], rfl, .inl (.inl upd_same), rfl, ?_⟩
        refine ⟨_, _, rfl, _, _, rfl, rfl, ?_⟩
        refine ⟨_, rfl, _, rfl, _, rfl, a, S, x, d, k, rfl, hS.same s2, hxd.sv (Same.sv s2), ho _ (List.mem_of_getElem? hdi), hk _ (List.mem_of_getElem? hki), fun f => ⟨_, _, rfl, s2, fitsA_snoc ff hdi hki f⟩, fun f => (q _ s2).2 (fitsA_take ff hdi hki f)⟩
    · rintro σ H1 ⟨y3, y4, rfl, s1, ff⟩
      refine (q H1 s1).1 ?_
      rw [hul] at ff
      rw [List.take_length, show ds.length = ks.length by omega, List.take_length] at ff
      exact ff
def spRF (P : Program) (w : World) (A : Ads) : Sp := fun vs H Q E => ∃ (a : Sa) (S : St) (v : V) (d : Dv) (n : Str), vs = [.ref a.s, v, .str n] ∧ SM P w A H a S ∧ Has A H v d ∧ okV S d ∧ n.length ≤ 1000 ∧ Err E A.ScriptError H "FieldError" (kindD S d ++ (" has no field " : Str) ++ n)
theorem ok_refuse_field (L : Lib P K mg A) : FnOk P w K mg base (L2.CX P w) 3 L.refuse_field.f L.refuse_field.fd ["store", "x", "name"] (spRF P w A) := by
  have G_kind_of : FnOk P w K mg base CX0 2 L.kind_of.f L.kind_of.fd ["store", "value"] (spKO P w A) := ok_kind_of L
  refine L.refuse_field.F.okX sc_refuse_field (fun vs H Q E h => ?_) (fun cdv A' outer s H vs Q E hr h => ?_)
  · obtain ⟨a, S, v, d, n, rfl, _⟩ := h
    rfl
  · obtain ⟨a, S, v, d, n, rfl, hS, hv, ho, hn, q⟩ := h
    obtain ⟨e1, e2⟩ := kind_kn S d
    have kl : ∀ n, n < 9 → (kn n).length ≤ 100 := by decide +kernel
    have kl := kl _ e2
    rw [← e1] at kl
    have hl : ((" has no field " : Str)).length = 14 := by decide +kernel
    refine ⟨_, (pss_one (ps_raise2 rfl L.x_ScriptError.T (L.x_ScriptError.F _ _) (hr.mono (by omega)) (takes_of rfl rfl rfl rfl) L.x_ScriptError.b (by rfl) L.x_ScriptError.g (pa_cons pe_str (pa_cons (pe_joined (.cons (pe_fmt (pe_call G_kind_of (hr.mono (by omega)) (by rfl) L.kind_of.g L.kind_of.F.kp L.kind_of.b .nil pass0 (pa_cons (pv 0) (pa_cons (pv 1) pa_nil)))) (.cons pe_str (.cons (pe_fmt (pv 2)) .nil)))) pa_nil)))), ?_⟩
    refine ⟨_, rfl, _, rfl, a, S, v, d, rfl, hS, hv, ho, .inl ⟨kindD S d, rfl, lt5 (by omega), kindD S d, rfl, ?_, (" has no field " : Str), rfl, ?_, ?_⟩⟩
    · rw [emp_app]; exact lt5 (by omega)
    · rw [emp_app, Str.length_append]; exact Nat.le_trans (m := 100000) (by omega) (by decide)
    refine ⟨_, rfl, .inl ⟨n, rfl, lt5 (by omega), n, rfl, ?_, ?_⟩⟩
    · rw [emp_app, Str.length_append, Str.length_append]; exact Nat.le_trans (m := 100000) (by omega) (by decide)
    · rw [emp_app]
      exact made2 (by decide +kernel) (by rw [Str.length_append, Str.length_append]; omega) q
end
end My
namespace My
open PySem L2 SX XT XS XE XD XL XZ
open C8 (pss_cut tCut cutS_slice pe_gc)
theorem nodup_set {α : Type} : ∀ {l : List α} {n : Nat} {q : α}, l.Nodup → q ∉ l → (l.set n q).Nodup
  | [], _, _, h, _ => h
  | a :: l, 0, q, h, n => List.nodup_cons.mpr ⟨fun z => n (List.mem_cons_of_mem _ z), (List.nodup_cons.mp h).2⟩
  | a :: l, k + 1, q, h, n => List.nodup_cons.mpr ⟨fun z => by
      rcases List.mem_or_eq_of_mem_set z with z | z
      · exact (List.nodup_cons.mp h).1 z
      · exact n (z ▸ List.mem_cons_self ..), nodup_set (List.nodup_cons.mp h).2 fun z => n (List.mem_cons_of_mem _ z)⟩
theorem Hs.set {A : Ads} {H : Hp} : ∀ {vs : List V} {ds : List Dv} {v : V} {d : Dv} (i : Nat), Hs A H vs ds → Has A H v d → Hs A H (vs.set i v) (ds.set i d)
  | _ :: _, _ :: _, _, _, 0, h, g => ⟨g, h.2⟩
  | _ :: _, _ :: _, _, _, i + 1, h, g => ⟨h.1, Hs.set i h.2 g⟩
  | [], [], _, _, _, _, _ => trivial
  | [], _ :: _, _, _, _, h, _ => h.elim
  | _ :: _, [], _, _, _, h, _ => h.elim
theorem Hs.erase {A : Ads} {H : Hp} : ∀ {vs : List V} {ds : List Dv} (i : Nat), Hs A H vs ds → Hs A H (vs.eraseIdx i) (ds.eraseIdx i)
  | _ :: _, _ :: _, 0, h => h.2
  | _ :: _, _ :: _, i + 1, h => ⟨h.1, Hs.erase i h.2⟩
  | [], [], _, _ => trivial
  | [], _ :: _, _, h => h.elim
  | _ :: _, [], _, h => h.elim
theorem Hs.init {A : Ads} {H : Hp} : ∀ {vs : List V} {ds : List Dv}, Hs A H vs ds → Hs A H vs.dropLast ds.dropLast
  | [], [], _ => trivial
  | [_], [_], _ => trivial
  | _ :: v :: vs, _ :: d :: ds, h => ⟨h.1, Hs.init (vs := v :: vs) (ds := d :: ds) h.2⟩
  | [_], _ :: _ :: _, h => h.2.elim
  | _ :: _ :: _, [_], h => h.2.elim
  | [], _ :: _, h => h.elim
  | _ :: _, [], h => h.elim
section
variable {P : Program} {w : World} {K : PySem.W.Frag} {mg : Str → Option Value} {base : Heap} {A : Ads}
/-- the thing n of the store is a list ds, at x with its part m -/
structure Pt (P : Program) (w : World) (A : Ads) (H : Hp) (a : Sa) (S : St) (n : Nat) (x m : Addr) (ds : List Dv) : Prop where
  sm : SM P w A H a S
  x_ : a.X[n]? = some x
  m_ : a.M[n]? = some m
  th : S.things[n]? = some (.parts ds)
theorem Pt.same {H H' : Hp} {a : Sa} {S : St} {n : Nat} {x m : Addr} {ds : List Dv} (p : Pt P w A H a S n x m ds) (s : Same H H') : Pt P w A H' a S n x m ds := ⟨p.sm.same s, p.x_, p.m_, p.th⟩
theorem Pt.at_ {H : Hp} {a : Sa} {S : St} {n : Nat} {x m : Addr} {ds : List Dv} (p : Pt P w A H a S n x m ds) : ∃ dx vs, H x = some (.ins A.Parts dx [("held", .ref m)]) ∧ H m = some (.lst vs) ∧ Hs A H vs ds := p.sm.th n x m _ p.x_ p.m_ p.th
/-- the store's thing n is now the list ds -/
def St.put (S : St) (n : Nat) (ds : List Dv) : St := { S with things := S.things.set n (.parts ds) }
/-- the list is written in place -/
theorem Pt.write {H : Hp} {a : Sa} {S : St} {n : Nat} {x m : Addr} {ds es : List Dv} {us : List V} (p : Pt P w A H a S n x m ds) (hu : Hs A H us es) :
    Ev a a H (upd H m (.lst us)) ∧ Pt P w A (upd H m (.lst us)) a (S.put n es) n x m es := by
  obtain ⟨dx, vs, h1, h2, h3⟩ := p.at_
  have om : a.own m := .inr (.inr (.inr (.inr (.inr (List.mem_of_getElem? p.m_)))))
  have sv : Sv H (upd H m (.lst us)) := fun b u e ne => by
    rw [upd_ne fun z => by rw [z, h2] at e; exact ne _ (Option.some.inj e).symm]
    exact e
  have nxm : x ≠ m := fun z => by rw [z, h2] at h1; cases h1
  refine ⟨⟨fun b u e ne => by rw [upd_ne (show b ≠ m from fun z => ne (by rw [z]; exact om))]; exact e, rfl, fun _ z => .inl z⟩, ⟨p.sm.setM p.x_ p.m_ sv.vk ⟨dx, us, by rw [upd_ne nxm]; exact h1, upd_same, hu.imp fun _ _ h => h.sv sv⟩, p.x_, p.m_, ?_⟩⟩
  show (S.things.set n _)[n]? = _
  rw [List.getElem?_set_self (List.getElem?_eq_some_iff.mp p.th).1]
/-- the list is put in another place -/
theorem Pt.turn (L : Lib P K mg A) {H : Hp} {a : Sa} {S : St} {n : Nat} {x m q dx : Addr} {ds es : List Dv} {us : List V} (p : Pt P w A H a S n x m ds) (hx : H x = some (.ins A.Parts dx [("held", .ref m)])) (hu : Hs A H us es) (nq : H q = none) :
    Ev a { a with M := a.M.set n q } H (upd (upd H q (.lst us)) x (.ins A.Parts dx [("held", .ref q)])) ∧ Pt P w A (upd (upd H q (.lst us)) x (.ins A.Parts dx [("held", .ref q)])) { a with M := a.M.set n q } (S.put n es) n x q es := by
  have ox : a.own x := .inr (.inr (.inr (.inr (.inl (List.mem_of_getElem? p.x_)))))
  have nxq : x ≠ q := fun z => by rw [z, nq] at hx; cases hx
  have keep : ∀ b u, H b = some u → b ≠ x → upd (upd H q (.lst us)) x (.ins A.Parts dx [("held", .ref q)]) b = some u := fun b u e ne => by
    rw [upd_ne ne, upd_ne (ne_of_none e nq)]
    exact e
  have fr : Fr a H (upd (upd H q (.lst us)) x (.ins A.Parts dx [("held", .ref q)])) := fun b u e ne => keep b u e fun z => ne (z ▸ ox)
  have vk := fr.vk L p.sm
  have hnm : n < a.M.length := (List.getElem?_eq_some_iff.mp p.m_).1
  have fq : ∀ z, z ∈ a.t :: a.o :: a.l :: a.M → z ≠ q := fun z hz e => by
    subst e
    refine p.sm.fresh L nq ?_
    simp only [List.mem_cons] at hz
    rcases hz with h | h | h | h
    · exact .inr (.inl h)
    · exact .inr (.inr (.inl h))
    · exact .inr (.inr (.inr (.inl h)))
    · exact .inr (.inr (.inr (.inr (.inr h))))
  have other : ∀ b, (∃ C dx fs, H b = some (.ins C dx fs)) → b ≠ x → upd (upd H q (.lst us)) x (.ins A.Parts dx [("held", .ref q)]) b = H b := fun b ⟨C, d, fs, e⟩ ne => by rw [keep b _ e ne, e]
  obtain ⟨ds0, hs0⟩ := p.sm.s_
  have nsx : a.s ≠ x := fun z => by rw [z, hx] at hs0; injection hs0 with q1; injection q1 with q1; exact ne_cls L.k_Store_Parts q1.symm
  have lx : ∀ b (xs : List V), H b = some (.lst xs) → b ≠ x := fun b xs e z => by rw [z, hx] at e; cases e
  refine ⟨⟨fr, rfl, fun b z => ?_⟩, ⟨⟨⟨ds0, keep _ _ hs0 nsx⟩, keep _ _ p.sm.t_ (lx _ _ p.sm.t_), keep _ _ p.sm.o_ (lx _ _ p.sm.o_), keep _ _ p.sm.l_ (lx _ _ p.sm.l_), ?_, ?_, ?_, ?_, p.sm.nx⟩, p.x_, ?_, ?_⟩⟩
  · rcases z with z | z | z | z | z | z
    · exact .inl (.inl z)
    · exact .inl (.inr (.inl z))
    · exact .inl (.inr (.inr (.inl z)))
    · exact .inl (.inr (.inr (.inr (.inl z))))
    · exact .inl (.inr (.inr (.inr (.inr (.inl z)))))
    · rcases List.mem_or_eq_of_mem_set z with z | z
      · exact .inl (.inr (.inr (.inr (.inr (.inr z)))))
      · exact .inr (z ▸ nq)
  · show a.X.length = (S.things.set n _).length
    rw [List.length_set]; exact p.sm.lx
  · show (a.M.set n q).length = (S.things.set n _).length
    rw [List.length_set, List.length_set]; exact p.sm.lm
  · intro i x' m' d' e1 e2 e3
    have e2 : (a.M.set n q)[i]? = some m' := e2
    have e3 : (S.things.set n (.parts es))[i]? = some d' := e3
    by_cases hi : n = i
    · subst hi
      have e1 : a.X[n]? = some x' := e1
      rw [p.x_] at e1
      cases e1
      rw [List.getElem?_set_self hnm] at e2
      rw [List.getElem?_set_self (List.getElem?_eq_some_iff.mp p.th).1] at e3
      cases e2
      cases e3
      exact ⟨dx, us, upd_same, by rw [upd_ne nxq.symm]; exact upd_same, hu.imp vk.v⟩
    · rw [List.getElem?_set_ne hi] at e2 e3
      have t := p.sm.th i x' m' d' e1 e2 e3
      have nx : x' ≠ x := fun z => by
        subst z
        exact hi (nodup_get p.sm.nx p.x_ e1)
      refine t.imp vk (fun u e => keep _ _ e nx) (fun u e => keep _ _ e fun z => ?_)
      obtain ⟨um, hum, nins, _⟩ := t.m
      rw [z, hx] at hum
      exact nins _ _ _ (Option.some.inj hum).symm
  · have nd := p.sm.nd
    have hm : ∀ z, z ∈ a.M.set n q → z ∈ a.M ∨ z = q := fun z hz => List.mem_or_eq_of_mem_set hz
    simp only [List.nodup_cons, List.mem_cons, not_or] at nd ⊢
    refine ⟨⟨nd.1.1, nd.1.2.1, fun z => ?_⟩, ⟨nd.2.1.1, fun z => ?_⟩, fun z => ?_, ?_⟩
    · rcases hm _ z with h | h
      · exact nd.1.2.2 h
      · exact fq a.t (by simp) h
    · rcases hm _ z with h | h
      · exact nd.2.1.2 h
      · exact fq a.o (by simp) h
    · rcases hm _ z with h | h
      · exact nd.2.2.1 h
      · exact fq a.l (by simp) h
    · refine nodup_set nd.2.2.2 fun z => ?_
      exact fq q (by simp [z]) rfl
  · show (a.M.set n q)[n]? = _
    rw [List.getElem?_set_self hnm]
  · show (S.things.set n _)[n]? = _
    rw [List.getElem?_set_self (List.getElem?_eq_some_iff.mp p.th).1]
end
end My
namespace My
open PySem L2 SX XT XS XE XD XL XZ
open C8 (pss_cut tCut cutS_slice pe_gc)
/-- what a method of lists comes to -/
inductive Rs where
  | val (d : Dv) (ds : List Dv)
  | new (es : List Dv)
  | err (k m : Str)
/-- the calls of methods of lists -/
inductive Cl where
  | push (d : Dv)
  | insert (i : Int) (d : Dv)
  | pop
  | remove (i : Int)
  | length
  | slice (i j : Int)
  | contains (d : Dv)
  | find (d : Dv)
  | count (d : Dv)
  | reverse
  | copy
def Cl.args : Cl → List Dv
  | .push d => [d] | .insert i d => [.int i, d] | .pop => [] | .remove i => [.int i] | .length => [] | .slice i j => [.int i, .int j] | .contains d => [d] | .find d => [d] | .count d => [d] | .reverse => [] | .copy => []
def Cl.nm : Cl → Str
  | .push _ => "push" | .insert _ _ => "insert" | .pop => "pop" | .remove _ => "remove" | .length => "length" | .slice _ _ => "slice" | .contains _ => "contains" | .find _ => "find" | .count _ => "count" | .reverse => "reverse" | .copy => "copy"
def Cl.kinds : Cl → List Str
  | .push _ => ["any"] | .insert _ _ => ["integer", "any"] | .pop => [] | .remove _ => ["integer"] | .length => [] | .slice _ _ => ["integer", "integer"] | .contains _ => ["any"] | .find _ => ["any"] | .count _ => ["any"] | .reverse => [] | .copy => []
/-- where d stands first -/
def fst (d : Dv) : List Dv → Nat → Option Nat
  | [], _ => none
  | e :: ds, k => if e = d then some k else fst d ds (k + 1)
def optD : Option Nat → Dv
  | some k => .int ((k : Nat) : Int)
  | none => .non
def Cl.res (ds : List Dv) : Cl → Rs
  | .push d => if ds.length < 1000 then .val .non (ds ++ [d]) else .err "SizeError" "too large"
  | .insert i d => if 0 ≤ i ∧ i ≤ ds.length then (if ds.length < 1000 then .val .non (ds.take i.toNat ++ [d] ++ ds.drop i.toNat) else .err "SizeError" "too large") else .err "IndexError" "index out of range"
  | .pop => if ds = [] then .err "IndexError" "index out of range" else .val (ds.getLast?.getD .non) ds.dropLast
  | .remove i => if 0 ≤ i ∧ i < ds.length then .val (ds[i.toNat]?.getD .non) (ds.eraseIdx i.toNat) else .err "IndexError" "index out of range"
  | .length => .val (.int ((ds.length : Nat) : Int)) ds
  | .slice i j => if 0 ≤ i ∧ i ≤ j ∧ j ≤ ds.length then .new ((ds.take j.toNat).drop i.toNat) else .err "IndexError" "index out of range"
  | .contains d => .val (.bl (fst d ds 0).isSome) ds
  | .find d => .val (optD (fst d ds 0)) ds
  | .count d => .val (.int (((ds.filter fun e => decide (e = d)).length : Nat) : Int)) ds
  | .reverse => .val .non ds.reverse
  | .copy => .new ds
theorem put_same {S : St} {n : Nat} {ds : List Dv} (h : S.things[n]? = some (.parts ds)) : S.put n ds = S := by
  obtain ⟨t, o, l, k⟩ := S
  have h : t[n]? = some (.parts ds) := h
  show St.mk (t.set n (.parts ds)) o l k = _
  have : t.set n (.parts ds) = t := by
    apply List.ext_getElem?
    intro i
    by_cases e : n = i
    · subst e
      rw [List.getElem?_set_self (List.getElem?_eq_some_iff.mp h).1, h]
    · rw [List.getElem?_set_ne e]
  rw [this]
def Rs.q (P : Program) (w : World) (A : Ads) (a : Sa) (S : St) (n : Nat) (x : Addr) (H : Hp) (Q : VK) (E : XK) : Rs → Prop
  | .val d es => ∀ H' a' m' v, Ev a a' H H' → Pt P w A H' a' (S.put n es) n x m' es → Has A H' v d → Q v H'
  | .new es => New P w A a S H (.parts es) Q
  | .err k m => ∀ H', Same H H' → Err E A.ScriptError H' k m
theorem Rs.q_same {P : Program} {w : World} {A : Ads} {a : Sa} {S : St} {n : Nat} {x : Addr} {H H2 : Hp} {Q : VK} {E : XK} (s : Same H H2) : ∀ {r : Rs}, r.q P w A a S n x H Q E → r.q P w A a S n x H2 Q E
  | .val _ _, h => fun H' a' m' v ev => h H' a' m' v ((Ev.same s).trans ev)
  | .new _, h => New.same s h
  | .err _ _, h => fun H' s' => h H' (s.trans s')
def spAct (P : Program) (w : World) (A : Ads) (c : Cl) : Sp := fun vs H Q E => ∃ (a : Sa) (S : St) (n : Nat) (x m : Addr) (ds : List Dv) (us : List V), vs = .ref a.s :: .ref x :: us ∧ Pt P w A H a S n x m ds ∧ Hs A H us c.args ∧ ds.length ≤ 1000 ∧ S.things.length < 100000 ∧ (c.res ds).q P w A a S n x H Q E
theorem hs1 {A : Ads} {H : Hp} {us : List V} {d : Dv} (h : Hs A H us [d]) : ∃ v, us = [v] ∧ Has A H v d := by
  match us, h with
  | [v], h => exact ⟨v, rfl, h.1⟩
theorem hs2 {A : Ads} {H : Hp} {us : List V} {d e : Dv} (h : Hs A H us [d, e]) : ∃ v u, us = [v, u] ∧ Has A H v d ∧ Has A H u e := by
  match us, h with
  | [v, u], h => exact ⟨v, u, rfl, h.1, h.2.1⟩
theorem hs0 {A : Ads} {H : Hp} {us : List V} (h : Hs A H us []) : us = [] := by
  match us, h with
  | [], _ => rfl
section
variable {P : Program} {w : World} {K : PySem.W.Frag} {mg : Str → Option Value} {base : Heap} {A : Ads}
theorem ok_push (L : Lib P K mg A) (d : Dv) : FnOk P w K mg base (L2.CX P w) 7 L.push.f L.push.fd ["store", "parts", "x"] (spAct P w A (.push d)) := by
  have G_check_sizeX : FnOk P w K mg base (L2.CX P w) 3 L.check_size.f L.check_size.fd ["size"] (spCSX A) := ok_check_sizeX L
  refine L.push.F.okX (k := 6) sc_push (fun vs H Q E h => ?_) (fun cdv A' outer s H vs Q E hr h => ?_)
  · obtain ⟨a, S, n, x, m, ds, us, rfl, _, h, _⟩ := h
    obtain ⟨v, rfl, _⟩ := hs1 h
    rfl
  · obtain ⟨a, S, n, x, m, ds, us, rfl, hp, h, hz, hb, q⟩ := h
    obtain ⟨v, rfl, hv⟩ := hs1 h
    obtain ⟨dx, vs, h1, h2, h3⟩ := hp.at_
    have hl := h3.len
    refine ⟨_, (pss_cons (ps_expr (pe_callS G_check_sizeX (hr.mono (by omega)) (by rfl) L.check_size.g L.check_size.F.kp L.check_size.b (fun σ => passAt (takes_of rfl rfl rfl rfl) σ) (pa_cons (pe_op op_add (pe_callB call_len_seq (by rfl) L.z_len PySem.boot_len (pa_cons (pe_fld (pv 1) rfl) pa_nil)) pe_int) pa_nil)))
      (pss_one (ps_expr (pe_bm PySem.F.plainAttrs_list PySem.F.slot_list_append PySem.F.type_list_append mt_append (pe_fld (pv 1) rfl) (pa_cons (pv 2) pa_nil))))), ?_⟩
    refine ⟨_, rfl, x, A.Parts, dx, _, _, rfl, h1, L.c_Parts.cl, L.n_Parts_held, lk_hit, m, vs, rfl, .inl (SqL.of h2), _, _, rfl, rfl, _, rfl, fun hs => ?_, fun hs => ?_⟩
    · have q : Rs.q P w A a S n x H Q E (.val .non (ds ++ [d])) := by
        have : (Cl.push d).res ds = .val .non (ds ++ [d]) := if_pos (by omega)
        rw [this] at q
        exact q
      refine ⟨_, rfl, x, A.Parts, dx, _, _, rfl, h1, L.c_Parts.cl, L.n_Parts_held, lk_hit, .inl ⟨rfl, _, SqL.of h2⟩, _, rfl, m, vs, v, rfl, rfl, h2, Nat.lt_of_le_of_lt (m := 1000) (by omega) (by decide), ?_⟩
      obtain ⟨ev, pt⟩ := hp.write (us := vs ++ [v]) (es := ds ++ [d]) (h3.app ⟨hv, trivial⟩)
      exact q _ a m .non ev pt rfl
    · have : (Cl.push d).res ds = .err "SizeError" "too large" := if_neg (by omega)
      rw [this] at q
      exact q H Same.rf
theorem ok_insert (L : Lib P K mg A) (i : Int) (d : Dv) : FnOk P w K mg base (L2.CX P w) 7 L.insert.f L.insert.fd ["store", "parts", "i", "x"] (spAct P w A (.insert i d)) := by
  have G_check_sizeX : FnOk P w K mg base (L2.CX P w) 3 L.check_size.f L.check_size.fd ["size"] (spCSX A) := ok_check_sizeX L
  have G_check_gap : FnOk P w K mg base (L2.CX P w) 4 L.check_gap.f L.check_gap.fd ["index", "length"] (spCG A) := ok_check_gap L
  refine L.insert.F.okX (k := 6) sc_insert (fun vs H Q E h => ?_) (fun cdv A' outer s H vs Q E hr h => ?_)
  · obtain ⟨a, S, n, x, m, ds, us, rfl, _, h, _⟩ := h
    obtain ⟨v, u, rfl, _⟩ := hs2 h
    rfl
  · obtain ⟨a, S, n, x, m, ds, us, rfl, hp, h, hz, hb, q⟩ := h
    obtain ⟨v0, v, rfl, hv0, hv⟩ := hs2 h
    cases hv0
    obtain ⟨dx, vs, h1, h2, h3⟩ := hp.at_
    have hl := h3.len
    refine ⟨_, (pss_cons (ps_expr (pe_callS G_check_gap (hr.mono (by omega)) (by rfl) L.check_gap.g L.check_gap.F.kp L.check_gap.b (fun σ => passAt (takes_of rfl rfl rfl rfl) σ) (pa_cons (pv 2) (pa_cons (pe_callB call_len_seq (by rfl) L.z_len PySem.boot_len (pa_cons (pe_fld (pv 1) rfl) pa_nil)) pa_nil))))
      (pss_cons (ps_expr (pe_callS G_check_sizeX (hr.mono (by omega)) (by rfl) L.check_size.g L.check_size.F.kp L.check_size.b (fun σ => passAt (takes_of rfl rfl rfl rfl) σ) (pa_cons (pe_op op_add (pe_callB call_len_seq (by rfl) L.z_len PySem.boot_len (pa_cons (pe_fld (pv 1) rfl) pa_nil)) pe_int) pa_nil)))
      (pss_one (ps_expr (pe_bm PySem.F.plainAttrs_list PySem.F.slot_list_insert PySem.F.type_list_insert mt_insert (pe_fld (pv 1) rfl) (pa_cons (pv 2) (pa_cons (pv 3) pa_nil))))))), ?_⟩
    refine ⟨_, rfl, _, rfl, x, A.Parts, dx, _, _, rfl, h1, L.c_Parts.cl, L.n_Parts_held, lk_hit, m, vs, rfl, .inl (SqL.of h2), _, _, rfl, fun hg => ?_, fun hg => ?_⟩
    · refine ⟨_, rfl, x, A.Parts, dx, _, _, rfl, h1, L.c_Parts.cl, L.n_Parts_held, lk_hit, m, vs, rfl, .inl (SqL.of h2), _, _, rfl, rfl, _, rfl, fun hs => ?_, fun hs => ?_⟩
      · have q : Rs.q P w A a S n x H Q E (.val .non (ds.take i.toNat ++ [d] ++ ds.drop i.toNat)) := by
          have : (Cl.insert i d).res ds = .val .non (ds.take i.toNat ++ [d] ++ ds.drop i.toNat) := by
            show (if _ then _ else _) = _
            rw [if_pos (by omega), if_pos (by omega)]
          rw [this] at q
          exact q
        refine ⟨_, rfl, x, A.Parts, dx, _, _, rfl, h1, L.c_Parts.cl, L.n_Parts_held, lk_hit, .inl ⟨rfl, _, SqL.of h2⟩, _, rfl, _, rfl, m, vs, i, v, rfl, rfl, h2, Nat.lt_of_le_of_lt (m := 1000) (by omega) (by decide), hg.1, by omega, ?_⟩
        obtain ⟨ev, pt⟩ := hp.write (us := vs.take i.toNat ++ [v] ++ vs.drop i.toNat) (es := ds.take i.toNat ++ [d] ++ ds.drop i.toNat) (((h3.take _).app (us := [v]) (es := [d]) ⟨hv, trivial⟩).app (h3.drop _))
        exact q _ a m .non ev pt rfl
      · have : (Cl.insert i d).res ds = .err "SizeError" "too large" := by
          show (if _ then _ else _) = _
          rw [if_pos (by omega), if_neg (by omega)]
        rw [this] at q
        exact q H Same.rf
    · have : (Cl.insert i d).res ds = .err "IndexError" "index out of range" := by
        show (if _ then _ else _) = _
        rw [if_neg (by omega)]
      rw [this] at q
      exact q H Same.rf
theorem ok_take_last (L : Lib P K mg A) : FnOk P w K mg base (L2.CX P w) 7 L.take_last.f L.take_last.fd ["store", "parts"] (spAct P w A .pop) := by
  have G_check_place : FnOk P w K mg base (L2.CX P w) 3 L.check_place.f L.check_place.fd ["index", "length"] (spCP A) := ok_check_place L
  refine L.take_last.F.okX (k := 6) sc_take_last (fun vs H Q E h => ?_) (fun cdv A' outer s H vs Q E hr h => ?_)
  · obtain ⟨a, S, n, x, m, ds, us, rfl, _, h, _⟩ := h
    cases hs0 h
    rfl
  · obtain ⟨a, S, n, x, m, ds, us, rfl, hp, h, hz, hb, q⟩ := h
    cases hs0 h
    obtain ⟨dx, vs, h1, h2, h3⟩ := hp.at_
    have hl := h3.len
    refine ⟨_, (pss_cons (ps_expr (pe_callS G_check_place (hr.mono (by omega)) (by rfl) L.check_place.g L.check_place.F.kp L.check_place.b (fun σ => passAt (takes_of rfl rfl rfl rfl) σ) (pa_cons pe_int (pa_cons (pe_callB call_len_seq (by rfl) L.z_len PySem.boot_len (pa_cons (pe_fld (pv 1) rfl) pa_nil)) pa_nil))))
      (pss_one (ps_ret (pe_bm0 PySem.F.plainAttrs_list PySem.F.slot_list_pop PySem.F.type_list_pop mt_pop (pe_fld (pv 1) rfl))))), ?_⟩
    refine ⟨_, rfl, x, A.Parts, dx, _, _, rfl, h1, L.c_Parts.cl, L.n_Parts_held, lk_hit, m, vs, rfl, .inl (SqL.of h2), _, _, rfl, fun hg => ?_, fun hg => ?_⟩
    · have ne : ds ≠ [] := fun z => by rw [z, List.length_nil] at hl; omega
      have hlast : ds[ds.length - 1]? = some (ds.getLast?.getD .non) := by
        rw [List.getLast?_eq_getElem?]
        cases e : ds[ds.length - 1]? with
        | none => exact absurd (List.getElem?_eq_none_iff.mp e) (by have := List.length_pos_iff.mpr ne; omega)
        | some d => rfl
      have q : Rs.q P w A a S n x H Q E (.val (ds.getLast?.getD .non) ds.dropLast) := by
        have : Cl.pop.res ds = .val (ds.getLast?.getD .non) ds.dropLast := if_neg ne
        rw [this] at q
        exact q
      obtain ⟨v, hv, hd⟩ := h3.at hlast
      refine ⟨_, rfl, x, A.Parts, dx, _, _, rfl, h1, L.c_Parts.cl, L.n_Parts_held, lk_hit, .inl ⟨rfl, _, SqL.of h2⟩, m, vs, v, rfl, rfl, h2, by rw [hl]; exact hv, ?_⟩
      obtain ⟨ev, pt⟩ := hp.write (us := vs.dropLast) (es := ds.dropLast) h3.init
      exact q _ a m v ev pt ((ev.fr.vk L hp.sm).v _ _ hd)
    · have : Cl.pop.res ds = .err "IndexError" "index out of range" := if_pos (List.length_eq_zero_iff.mp (by omega))
      rw [this] at q
      exact q H Same.rf
theorem ok_take_out (L : Lib P K mg A) (i : Int) : FnOk P w K mg base (L2.CX P w) 7 L.take_out_lists.f L.take_out_lists.fd ["store", "parts", "i"] (spAct P w A (.remove i)) := by
  have G_check_place : FnOk P w K mg base (L2.CX P w) 3 L.check_place.f L.check_place.fd ["index", "length"] (spCP A) := ok_check_place L
  refine L.take_out_lists.F.okX (k := 6) sc_take_out_lists (fun vs H Q E h => ?_) (fun cdv A' outer s H vs Q E hr h => ?_)
  · obtain ⟨a, S, n, x, m, ds, us, rfl, _, h, _⟩ := h
    obtain ⟨v, rfl, _⟩ := hs1 h
    rfl
  · obtain ⟨a, S, n, x, m, ds, us, rfl, hp, h, hz, hb, q⟩ := h
    obtain ⟨v0, rfl, hv0⟩ := hs1 h
    cases hv0
    obtain ⟨dx, vs, h1, h2, h3⟩ := hp.at_
    have hl := h3.len
    refine ⟨_, (pss_cons (ps_expr (pe_callS G_check_place (hr.mono (by omega)) (by rfl) L.check_place.g L.check_place.F.kp L.check_place.b (fun σ => passAt (takes_of rfl rfl rfl rfl) σ) (pa_cons (pv 2) (pa_cons (pe_callB call_len_seq (by rfl) L.z_len PySem.boot_len (pa_cons (pe_fld (pv 1) rfl) pa_nil)) pa_nil))))
      (pss_one (ps_ret (pe_bm PySem.F.plainAttrs_list PySem.F.slot_list_pop PySem.F.type_list_pop mt_popAt (pe_fld (pv 1) rfl) (pa_cons (pv 2) pa_nil))))), ?_⟩
    refine ⟨_, rfl, _, rfl, x, A.Parts, dx, _, _, rfl, h1, L.c_Parts.cl, L.n_Parts_held, lk_hit, m, vs, rfl, .inl (SqL.of h2), _, _, rfl, fun hg => ?_, fun hg => ?_⟩
    · have hi : i.toNat < ds.length := by omega
      have hat : ds[i.toNat]? = some (ds[i.toNat]?.getD .non) := by rw [List.getElem?_eq_getElem hi]; rfl
      have q : Rs.q P w A a S n x H Q E (.val (ds[i.toNat]?.getD .non) (ds.eraseIdx i.toNat)) := by
        have : (Cl.remove i).res ds = .val (ds[i.toNat]?.getD .non) (ds.eraseIdx i.toNat) := if_pos (by omega)
        rw [this] at q
        exact q
      obtain ⟨v, hv, hd⟩ := h3.at hat
      have hk : seqIndex? i vs.length = some i.toNat := by
        have := seq_nat (i := i.toNat) (n := vs.length) (by omega)
        rw [Int.toNat_of_nonneg hg.1] at this
        exact this
      refine ⟨_, rfl, x, A.Parts, dx, _, _, rfl, h1, L.c_Parts.cl, L.n_Parts_held, lk_hit, .inl ⟨rfl, _, SqL.of h2⟩, _, rfl, m, vs, i, i.toNat, v, rfl, rfl, h2, by omega, by omega, hk, hv, ?_⟩
      obtain ⟨ev, pt⟩ := hp.write (us := vs.eraseIdx i.toNat) (es := ds.eraseIdx i.toNat) (h3.erase _)
      exact q _ a m v ev pt ((ev.fr.vk L hp.sm).v _ _ hd)
    · have : (Cl.remove i).res ds = .err "IndexError" "index out of range" := if_neg (by omega)
      rw [this] at q
      exact q H Same.rf
end
end My
namespace My
open PySem L2 SX XT XS XE XD XL XZ
open C8 (pss_cut tCut cutS_slice pe_gc)
section
variable {P : Program} {w : World} {K : PySem.W.Frag} {mg : Str → Option Value} {base : Heap} {A : Ads}
theorem FnOk.cx {CX : CXT} {k : Nat} {f : Addr} {fd : FuncData} {ps : List Str} {sp : Sp} (F : FnOk P w K mg base CX0 k f fd ps sp) : FnOk P w K mg base CX k f fd ps sp :=
  ⟨F.len, fun A outer s H args us vs Q E hr he hb hv hs => codeAny_mono (F.run A outer s H args us vs Q E hr he hb hv hs) fun r s' h => by
    revert h
    unfold CR
    split <;> first | exact fun h => h | exact fun h => h.elim⟩
theorem cutV_mid (xs : List V) {i j : Int} (h0 : 0 ≤ i) (h1 : i ≤ j) (h2 : j ≤ xs.length) : cutV xs (some i) (some j) = (xs.take j.toNat).drop i.toNat := by
  unfold cutV
  have e1 : HT.sIx xs.length 0 (some i) = i.toNat := by
    show (if i < 0 then _ else _) = _
    rw [if_neg (by omega)]
    omega
  have e2 : HT.sIx xs.length xs.length (some j) = j.toNat := by
    show (if j < 0 then _ else _) = _
    rw [if_neg (by omega)]
    omega
  rw [e1, e2, List.drop_take]
theorem ok_length (L : Lib P K mg A) : FnOk P w K mg base (L2.CX P w) 7 L.length_lists.f L.length_lists.fd ["store", "parts"] (spAct P w A .length) := by
  refine L.length_lists.F.okX (k := 6) sc_length_lists (fun vs H Q E h => ?_) (fun cdv A' outer s H vs Q E hr h => ?_)
  · obtain ⟨a, S, n, x, m, ds, us, rfl, _, h, _⟩ := h
    cases hs0 h
    rfl
  · obtain ⟨a, S, n, x, m, ds, us, rfl, hp, h, hz, hb, q⟩ := h
    cases hs0 h
    obtain ⟨dx, vs, h1, h2, h3⟩ := hp.at_
    have hl := h3.len
    refine ⟨_, (pss_one (ps_ret (pe_callB call_len_seq (by rfl) L.z_len PySem.boot_len (pa_cons (pe_fld (pv 1) rfl) pa_nil)))), ?_⟩
    refine ⟨_, rfl, x, A.Parts, dx, _, _, rfl, h1, L.c_Parts.cl, L.n_Parts_held, lk_hit, m, vs, rfl, .inl (SqL.of h2), ?_⟩
    have q : Rs.q P w A a S n x H Q E (.val (.int ((ds.length : Nat) : Int)) ds) := q
    rw [hl]
    exact q H a m _ Ev.rfl' (by rw [put_same hp.th]; exact hp) rfl
theorem ok_part_between (L : Lib P K mg A) (i j : Int) : FnOk P w K mg base (L2.CX P w) 7 L.part_between_lists.f L.part_between_lists.fd ["store", "parts", "i", "j"] (spAct P w A (.slice i j)) := by
  have G_check_gaps : FnOk P w K mg base (L2.CX P w) 5 L.check_gaps.f L.check_gaps.fd ["start", "stop", "length"] (spCGs A) := ok_check_gaps L
  have G_make_listX : FnOk P w K mg base (L2.CX P w) 5 L.make_list.f L.make_list.fd ["store", "values"] (spMLX P w K A) := ok_make_listX L
  refine L.part_between_lists.F.okX (k := 6) sc_part_between_lists (fun vs H Q E h => ?_) (fun cdv A' outer s H vs Q E hr h => ?_)
  · obtain ⟨a, S, n, x, m, ds, us, rfl, _, h, _⟩ := h
    obtain ⟨v, u, rfl, _⟩ := hs2 h
    rfl
  · obtain ⟨a, S, n, x, m, ds, us, rfl, hp, h, hz, hb, q⟩ := h
    obtain ⟨v0, v1, rfl, hv0, hv1⟩ := hs2 h
    cases hv0
    cases hv1
    obtain ⟨dx, vs, h1, h2, h3⟩ := hp.at_
    have hl := h3.len
    refine ⟨_, (pss_cons (ps_expr (pe_callS G_check_gaps (hr.mono (by omega)) (by rfl) L.check_gaps.g L.check_gaps.F.kp L.check_gaps.b (fun σ => passAt (takes_of rfl rfl rfl rfl) σ) (pa_cons (pv 2) (pa_cons (pv 3) (pa_cons (pe_callB call_len_seq (by rfl) L.z_len PySem.boot_len (pa_cons (pe_fld (pv 1) rfl) pa_nil)) pa_nil)))))
      (pss_one (ps_ret (pe_callS G_make_listX (hr.mono (by omega)) (by rfl) L.make_list.g L.make_list.F.kp L.make_list.b (fun σ => passAt (takes_of rfl rfl rfl rfl) σ) (pa_cons (pv 0) (pa_cons (pe_slice sl_list (pe_fld (pv 1) rfl) (po_some (pv 2)) (po_some (pv 3))) pa_nil)))))), ?_⟩
    refine ⟨_, rfl, _, rfl, _, rfl, x, A.Parts, dx, _, _, rfl, h1, L.c_Parts.cl, L.n_Parts_held, lk_hit, m, vs, rfl, .inl (SqL.of h2), _, _, _, rfl, fun hg => ?_, fun hg => ?_⟩
    · have q : Rs.q P w A a S n x H Q E (.new ((ds.take j.toNat).drop i.toNat)) := by
        have : (Cl.slice i j).res ds = .new ((ds.take j.toNat).drop i.toNat) := if_pos (by omega)
        rw [this] at q
        exact q
      refine ⟨_, rfl, _, rfl, x, A.Parts, dx, _, _, rfl, h1, L.c_Parts.cl, L.n_Parts_held, lk_hit, ?_⟩
      refine ⟨_, rfl, i, rfl, _, rfl, j, rfl, m, vs, rfl, SqL.of h2, fun D nD => ?_⟩
      rw [cutV_mid vs (by omega) (by omega) (by omega)]
      have s1 := same_upd (o := .lst ((vs.take j.toNat).drop i.toNat)) nD
      refine ⟨a, S, D, _, (ds.take j.toNat).drop i.toNat, rfl, hp.sm.same s1, SqL.of upd_same, ((h3.take _).drop _).imp fun _ _ h => h.sv (Same.sv s1), hb, fun _ => New.same s1 q, fun h => absurd h ?_⟩
      rw [List.length_drop, List.length_take]
      omega
    · have : (Cl.slice i j).res ds = .err "IndexError" "index out of range" := if_neg (by omega)
      rw [this] at q
      exact q H Same.rf
def spEqual (A : Ads) : Sp := fun vs H Q _ => ∃ v1 v2 d1 d2, vs = [v1, v2] ∧ Has A H v1 d1 ∧ Has A H v2 d2 ∧ Q (.bl (decide (d1 = d2))) H
theorem ok_equal (L : Lib P K mg A) : FnOk P w K mg base CX0 2 L.equal.f L.equal.fd ["x", "y"] (spEqual A) := by
  refine L.equal.F.ok sc_equal (fun vs H Q E h => ?_) (fun cdv A' outer s H vs Q E hr h => ?_)
  · obtain ⟨v1, v2, d1, d2, rfl, _⟩ := h
    rfl
  · obtain ⟨v1, v2, d1, d2, rfl, h1, h2, q⟩ := h
    refine ⟨_, (pss_one (ps_ret (pe_and (pe_cmpR op_eq (pe_callB call_isi (by rfl) L.z_isinstance (by decide +kernel) (pa_cons (pv 0) (pa_cons (pe_bltn (v := .ty "bool") (by rfl) L.z_bool (by decide +kernel) rfl) pa_nil))) (pe_callB call_isi (by rfl) L.z_isinstance (by decide +kernel) (pa_cons (pv 1) (pa_cons (pe_bltn (v := .ty "bool") (by rfl) L.z_bool (by decide +kernel) rfl) pa_nil))) (nomark _)) (pe_one (pe_cmpR (op_eqM L (hr.mono (by omega))) (pv 0) (pv 1) (nomark _)))))), ?_⟩
    refine ⟨_, rfl, v1, .ty "bool", _, _, _, rfl, .ty _, has_ty L h1, kit_bool L d1, _, rfl, v2, .ty "bool", _, _, _, rfl, .ty _, has_ty L h2, kit_bool L d2, ?_⟩
    refine ⟨(by rfl), _, rfl, ite_or (fun e => ?_) fun e => ?_⟩
    · exact ⟨_, rfl, _, rfl, d1, d2, h1, h2, by simpa using e, q⟩
    · have ne : d1 ≠ d2 := fun z => by rw [z] at e; simp at e
      rw [decide_eq_false ne] at q
      exact q
theorem ok_turn_around (L : Lib P K mg A) : FnOk P w K mg base (L2.CX P w) 7 L.turn_around_lists.f L.turn_around_lists.fd ["store", "parts"] (spAct P w A .reverse) := by
  refine L.turn_around_lists.F.okX (k := 6) sc_turn_around_lists (fun vs H Q E h => ?_) (fun cdv A' outer s H vs Q E hr h => ?_)
  · obtain ⟨a, S, n, x, m, ds, us, rfl, _, h, _⟩ := h
    cases hs0 h
    rfl
  · obtain ⟨a, S, n, x, m, ds, us, rfl, hp, h, hz, hb, q⟩ := h
    cases hs0 h
    obtain ⟨dx, vs, h1, h2, h3⟩ := hp.at_
    refine ⟨_, (pss_one (ps_fld (pv 1) (pe_revL (pe_fld (pv 1) rfl)) rfl)), ?_⟩
    refine ⟨_, rfl, x, A.Parts, dx, _, _, rfl, h1, L.c_Parts.cl, L.n_Parts_held, lk_hit, m, vs, rfl, SqL.of h2, fun D nD => ?_⟩
    have q : Rs.q P w A a S n x H Q E (.val .non ds.reverse) := q
    obtain ⟨ev, pt⟩ := hp.turn L h1 (h3.rev) nD
    refine ⟨_, rfl, x, A.Parts, dx, _, rfl, (by rw [upd_ne (ne_of_none h1 nD)]; exact h1), L.c_Parts.cl, L.n_Parts_held, (by show 1 < 1000; decide), ?_⟩
    exact q _ _ D .non ev pt rfl
theorem ok_copy (L : Lib P K mg A) : FnOk P w K mg base (L2.CX P w) 7 L.copy_lists.f L.copy_lists.fd ["store", "parts"] (spAct P w A .copy) := by
  have G_make_listX : FnOk P w K mg base (L2.CX P w) 5 L.make_list.f L.make_list.fd ["store", "values"] (spMLX P w K A) := ok_make_listX L
  refine L.copy_lists.F.okX (k := 6) sc_copy_lists (fun vs H Q E h => ?_) (fun cdv A' outer s H vs Q E hr h => ?_)
  · obtain ⟨a, S, n, x, m, ds, us, rfl, _, h, _⟩ := h
    cases hs0 h
    rfl
  · obtain ⟨a, S, n, x, m, ds, us, rfl, hp, h, hz, hb, q⟩ := h
    cases hs0 h
    obtain ⟨dx, vs, h1, h2, h3⟩ := hp.at_
    refine ⟨_, (pss_one (ps_ret (pe_callS G_make_listX (hr.mono (by omega)) (by rfl) L.make_list.g L.make_list.F.kp L.make_list.b (fun σ => passAt (takes_of rfl rfl rfl rfl) σ) (pa_cons (pv 0) (pa_cons (pe_fld (pv 1) rfl) pa_nil))))), ?_⟩
    have q : New P w A a S H (.parts ds) Q := q
    exact ⟨_, rfl, _, rfl, x, A.Parts, dx, _, _, rfl, h1, L.c_Parts.cl, L.n_Parts_held, lk_hit, a, S, m, vs, ds, rfl, hp.sm, SqL.of h2, h3, hb, fun _ => q, fun h => absurd h (by omega)⟩
def spFind (P : Program) (w : World) (A : Ads) : Sp := fun vs H Q _ => ∃ (a : Sa) (S : St) (n : Nat) (x m : Addr) (ds : List Dv) (v : V) (d : Dv), vs = [.ref a.s, .ref x, v] ∧ Pt P w A H a S n x m ds ∧ Has A H v d ∧ ds.length ≤ 1000 ∧ ∀ H', Same H H' → Q (toV (optD (fst d ds 0))) H'
theorem fst_at {d : Dv} : ∀ {ds : List Dv} {i k : Nat}, (∀ e ∈ ds.take i, e ≠ d) → ds[i]? = some d → fst d ds k = some (k + i)
  | e :: ds, 0, k, _, h => by
    simp at h
    subst h
    show (if e = e then some k else _) = _
    rw [if_pos rfl]
    rfl
  | e :: ds, i + 1, k, g, h => by
    simp at h
    have ne : e ≠ d := g e (by simp)
    show (if e = d then some k else fst d ds (k + 1)) = _
    rw [if_neg ne, fst_at (fun x hx => g x (by simp [hx])) h, Nat.add_assoc, Nat.add_comm 1]
  | [], _, _, _, h => by simp at h
theorem fst_none {d : Dv} : ∀ {ds : List Dv} {k : Nat}, (∀ e ∈ ds, e ≠ d) → fst d ds k = none
  | [], _, _ => rfl
  | e :: ds, k, g => by
    show (if e = d then some k else fst d ds (k + 1)) = _
    rw [if_neg (g e (by simp)), fst_none fun x hx => g x (by simp [hx])]
theorem ok_find0 (L : Lib P K mg A) : FnOk P w K mg base CX0 3 L.find_lists.f L.find_lists.fd ["store", "parts", "x"] (spFind P w A) := by
  have G_equal : FnOk P w K mg base CX0 2 L.equal.f L.equal.fd ["x", "y"] (spEqual A) := ok_equal L
  refine L.find_lists.F.ok sc_find_lists (fun vs H Q E h => ?_) (fun cdv A' outer s H vs Q E hr h => ?_)
  · obtain ⟨a, S, n, x, m, ds, v, d, rfl, _⟩ := h
    rfl
  · obtain ⟨a, S, n, x, m, ds, v, d, rfl, hp, hv, hz, q⟩ := h
    obtain ⟨dx, vs, h1, h2, h3⟩ := hp.at_
    have hl := h3.len
    refine ⟨_, (pss_cons (ps_for PassesOwn.never rfl (pi_enum (by rfl) L.z_enumerate (pa_cons (pe_fld (pv 1) rfl) pa_nil)) (pg_tup (by rfl) (pgs_cons (pg_name (i := 3) sc_find_lists.nd rfl (.inl rfl)) (pgs_cons (pg_name (i := 4) sc_find_lists.nd rfl (.inl rfl)) pgs_nil)))
        (pss_one (ps_if (pt_val (pe_call G_equal (hr.mono (by omega)) (by rfl) L.equal.g L.equal.F.kp L.equal.b .nil pass0 (pa_cons (pv 4) (pa_cons (pv 2) pa_nil))))
        (pss_one (ps_ret (pv 3)))
        pss_nil)))
      (pss_one (ps_ret pe_non))), ?_⟩
    refine ⟨_, rfl, x, A.Parts, dx, _, _, rfl, h1, L.c_Parts.cl, L.n_Parts_held, lk_hit, m, vs, rfl, SqL.of h2, for_it (walk_enum (K := K) (a := m) (xs := vs)) (fun j σ H' => ∃ y3 y4 : Option V, σ = [some (.ref a.s), some (.ref x), some v, y3, y4] ∧ Same H H' ∧ ∀ e ∈ ds.take j, e ≠ d) ⟨none, none, rfl, Same.rf, by simp⟩ (fun j σ H' _ h => by obtain ⟨_, _, _, s, _⟩ := h; exact SqL.of (s _ _ h2)) ?_ ?_⟩
    · rintro j vx σ H1 H2 hj ⟨y3, y4, rfl, s1, g⟩ ⟨T, xa, xb, rfl, nT, rfl, exa, exb⟩
      cases exa
      have s2 : Same H (upd H1 T (.tup [.int (j : Nat), xb])) := s1.trans (same_upd nT)
      obtain ⟨e, he, hxb⟩ := h3.atv exb
      refine ⟨T, _, rfl, SqT.of upd_same, rfl, _, _, rfl, _, _, rfl, rfl, ?_⟩
      refine ⟨_, rfl, _, rfl, xb, v, e, d, rfl, hxb.sv (Same.sv s2), hv.sv (Same.sv s2), _, rfl, ?_⟩
      by_cases hed : e = d
      · rw [decide_eq_true hed]
        refine iteT ⟨_, rfl, ?_⟩
        subst hed
        have q := q _ s2
        rw [fst_at g he, Nat.zero_add] at q
        exact q
      · rw [decide_eq_false hed]
        refine iteF ⟨_, _, rfl, s2, fun z hz => ?_⟩
        rw [List.take_add_one, he] at hz
        rcases List.mem_append.mp hz with h | h
        · exact g z h
        · simp at h
          rw [h]
          exact hed
    · rintro σ H1 ⟨y3, y4, rfl, s1, g⟩
      have q := q H1 s1
      rw [fst_none (by rw [hl, List.take_length] at g; exact g)] at q
      exact q
theorem fst_lt {d : Dv} : ∀ {ds : List Dv} {k j : Nat}, fst d ds k = some j → True := fun _ => trivial
theorem opt_has {A : Ads} {H : Hp} (o : Option Nat) : Has A H (toV (optD o)) (optD o) := by
  cases o <;> rfl
theorem ok_find (L : Lib P K mg A) (d : Dv) : FnOk P w K mg base (L2.CX P w) 7 L.find_lists.f L.find_lists.fd ["store", "parts", "x"] (spAct P w A (.find d)) :=
  ((FnOk.cx (ok_find0 L)).imp fun vs H Q E h => by
    obtain ⟨a, S, n, x, m, ds, us, rfl, hp, h, hz, hb, q⟩ := h
    obtain ⟨v, rfl, hv⟩ := hs1 h
    have q : Rs.q P w A a S n x H Q E (.val (optD (fst d ds 0)) ds) := q
    refine ⟨a, S, n, x, m, ds, v, d, rfl, hp, hv, hz, fun H' s => ?_⟩
    exact q H' a m _ (Ev.same s) (by rw [put_same hp.th]; exact hp.same s) (opt_has _)).mono (by omega)
theorem ok_contains (L : Lib P K mg A) (d : Dv) : FnOk P w K mg base (L2.CX P w) 7 L.contains_lists.f L.contains_lists.fd ["store", "parts", "x"] (spAct P w A (.contains d)) := by
  have G_find_lists : FnOk P w K mg base CX0 3 L.find_lists.f L.find_lists.fd ["store", "parts", "x"] (spFind P w A) := ok_find0 L
  refine L.contains_lists.F.okX (k := 6) sc_contains_lists (fun vs H Q E h => ?_) (fun cdv A' outer s H vs Q E hr h => ?_)
  · obtain ⟨a, S, n, x, m, ds, us, rfl, _, h, _⟩ := h
    obtain ⟨v, rfl, _⟩ := hs1 h
    rfl
  · obtain ⟨a, S, n, x, m, ds, us, rfl, hp, h, hz, hb, q⟩ := h
    obtain ⟨v, rfl, hv⟩ := hs1 h
    have q : Rs.q P w A a S n x H Q E (.val (.bl (fst d ds 0).isSome) ds) := q
    refine ⟨_, (pss_one (ps_ret (pe_cmpR op_notN (pe_call G_find_lists (hr.mono (by omega)) (by rfl) L.find_lists.g L.find_lists.F.kp L.find_lists.b .nil pass0 (pa_cons (pv 0) (pa_cons (pv 1) (pa_cons (pv 2) pa_nil)))) pe_non (nomark _)))), ?_⟩
    refine ⟨_, rfl, _, rfl, _, rfl, a, S, n, x, m, ds, v, d, rfl, hp, hv, hz, fun H' s => ?_⟩
    refine ⟨rfl, ?_⟩
    have e : (!decide (toV (optD (fst d ds 0)) = V.non)) = (fst d ds 0).isSome := by cases fst d ds 0 <;> rfl
    have q := q H' a m (.bl (fst d ds 0).isSome) (Ev.same s) (by rw [put_same hp.th]; exact hp.same s) rfl
    rw [← e] at q
    exact q
theorem take_filter {d : Dv} {ds : List Dv} {i : Nat} {e : Dv} (h : ds[i]? = some e) : (ds.take (i + 1)).filter (fun e => decide (e = d)) = (ds.take i).filter (fun e => decide (e = d)) ++ (if e = d then [e] else []) := by
  rw [List.take_add_one, h, List.filter_append]
  by_cases c : e = d
  · simp [c]
  · simp [c]
theorem ok_count (L : Lib P K mg A) (d : Dv) : FnOk P w K mg base (L2.CX P w) 7 L.count.f L.count.fd ["store", "parts", "x"] (spAct P w A (.count d)) := by
  have G_equal : FnOk P w K mg base CX0 2 L.equal.f L.equal.fd ["x", "y"] (spEqual A) := ok_equal L
  refine L.count.F.okX (k := 6) sc_count (fun vs H Q E h => ?_) (fun cdv A' outer s H vs Q E hr h => ?_)
  · obtain ⟨a, S, n, x, m, ds, us, rfl, _, h, _⟩ := h
    obtain ⟨v, rfl, _⟩ := hs1 h
    rfl
  · obtain ⟨a, S, n, x, m, ds, us, rfl, hp, h, hz, hb, q⟩ := h
    obtain ⟨v, rfl, hv⟩ := hs1 h
    have q : Rs.q P w A a S n x H Q E (.val (.int (((ds.filter fun e => decide (e = d)).length : Nat) : Int)) ds) := q
    obtain ⟨dx, vs, h1, h2, h3⟩ := hp.at_
    have hl := h3.len
    refine ⟨_, (pss_one (ps_ret (pe_callB call_len_seq (by rfl) L.z_len PySem.boot_len (pa_cons (pe_lc (own := [("part", 3)]) (g := gName 3) (by rfl) sc_count.nd (pi_list (pe_fld (pv 1) rfl)) (blkOk_by (own := [("part", 3)]) (N := ["store", "parts", "x", "part"]) (sc := defScope (top 68)) (by decide +kernel)) (fun _ _ _ _ _ => (pg_name (i := 3) sc_count.nd rfl (.inl rfl))) (fun _ _ _ _ _ => pts_one (pt_val (pe_call G_equal (hr.mono (by omega)) (by rfl) L.equal.g L.equal.F.kp L.equal.b .nil pass0 (pa_cons (pv 3) (pa_cons (pv 2) pa_nil))))) (fun _ _ _ _ _ => (pv 3))) pa_nil)))), ?_⟩
    refine ⟨_, rfl, x, A.Parts, dx, _, .ref m, rfl, h1, L.c_Parts.cl, L.n_Parts_held, lk_hit, m, rfl, ⟨_, SqL.of h2⟩, fun D nD => ?_⟩
    refine lc_list (K := K) (a := m) (xs := vs) (fun i H' => Same H H' ∧ ∃ ws : List V, H' D = some (.lst ws) ∧ ws.length = ((ds.take i).filter fun e => decide (e = d)).length) ⟨same_upd nD, [], upd_same, rfl⟩ (fun i H' _ h => SqL.of (h.1 _ _ h2)) ?_ ?_
    · rintro i vx H1 hvx ⟨s1, ws, e1, e2⟩
      obtain ⟨e, he, hxe⟩ := h3.atv hvx
      have hi : i < vs.length := (List.getElem?_eq_some_iff.mp hvx).1
      have fl : ((ds.take i).filter fun e => decide (e = d)).length ≤ i := Nat.le_trans (List.length_filter_le _ _) (by rw [List.length_take]; omega)
      refine ⟨rfl, _, rfl, _, rfl, vx, v, e, d, rfl, hxe.sv (Same.sv s1), hv.sv (Same.sv s1), _, rfl, ?_⟩
      rw [take_filter he]
      by_cases c : e = d
      · rw [decide_eq_true c]
        refine iteT ⟨_, rfl, ws, e1, Nat.lt_of_le_of_lt (m := 1000) (by omega) (by decide), fun b o eb => ?_, _, upd_same, ?_⟩
        · rw [upd_ne (ne_of_none eb nD)]
          exact s1 _ _ eb
        · rw [if_pos c, List.length_append, List.length_append, e2]
          rfl
      · rw [decide_eq_false c]
        refine iteF ⟨s1, ws, e1, ?_⟩
        rw [if_neg c, List.append_nil]
        exact e2
    · rintro H1 ⟨s1, ws, e1, e2⟩
      rw [hl, List.take_length] at e2
      refine ⟨D, ws, rfl, .inl (SqL.of e1), ?_⟩
      rw [e2]
      exact q H1 a m _ (Ev.same s1) (by rw [put_same hp.th]; exact hp.same s1) rfl
/-! ### elements -/
def spGI (P : Program) (w : World) (A : Ads) : Sp := fun vs H Q E => ∃ (a : Sa) (S : St) (n : Nat) (x m : Addr) (ds : List Dv) (v : V) (i : Int), vs = [.ref a.s, v, .int i] ∧ Pt P w A H a S n x m ds ∧ Has A H v (.obj n) ∧
  ∀ H', Same H H' → (∀ d u, 0 ≤ i → ds[i.toNat]? = some d → Has A H' u d → Q u H') ∧ (¬ (0 ≤ i ∧ i < ds.length) → Err E A.ScriptError H' "IndexError" "index out of range")
theorem Pt.kind {H : Hp} {a : Sa} {S : St} {n : Nat} {x m : Addr} {ds : List Dv} (p : Pt P w A H a S n x m ds) : kindD S (.obj n) = ("list" : Str) := by
  show (match S.things[n]? with
    | some d => kindT d
    | none => ("function" : Str)) = ("list" : Str)
  rw [p.th]
  rfl
theorem Pt.ok {H : Hp} {a : Sa} {S : St} {n : Nat} {x m : Addr} {ds : List Dv} (p : Pt P w A H a S n x m ds) : okV S (.obj n) := (List.getElem?_eq_some_iff.mp p.th).1
theorem ok_get_item (L : Lib P K mg A) : FnOk P w K mg base (L2.CX P w) 5 L.get_item.f L.get_item.fd ["store", "x", "i"] (spGI P w A) := by
  have G_kind_of : FnOk P w K mg base CX0 2 L.kind_of.f L.kind_of.fd ["store", "value"] (spKO P w A) := ok_kind_of L
  have G_check_kind : FnOk P w K mg base (L2.CX P w) 3 L.check_kind.f L.check_kind.fd ["store", "value", "kind"] (spCKX P w A) := ok_check_kind L
  have G_check_place : FnOk P w K mg base (L2.CX P w) 3 L.check_place.f L.check_place.fd ["index", "length"] (spCP A) := ok_check_place L
  have G_Store_at : FnOk P w K mg base CX0 1 L.Store_at.f L.Store_at.fd ["self", "ref"] (spAt P w A) := ok_Store_at L
  refine L.get_item.F.okX (k := 4) sc_get_item (fun vs H Q E h => ?_) (fun cdv A' outer s H vs Q E hr h => ?_)
  · obtain ⟨a, S, n, x, m, ds, v, i, rfl, _⟩ := h
    rfl
  · obtain ⟨a, S, n, x, m, ds, v, i, rfl, hp, hv, q⟩ := h
    obtain ⟨dx, vs, h1, h2, h3⟩ := hp.at_
    have hl := h3.len
    obtain ⟨b, db, rfl, hb⟩ := id hv
    obtain ⟨ds0, hs0⟩ := hp.sm.s_
    refine ⟨_, (pss_cons (ps_set (i := 3) sc_get_item.nd rfl (.inl rfl) (pe_call G_kind_of (hr.mono (by omega)) (by rfl) L.kind_of.g L.kind_of.F.kp L.kind_of.b .nil pass0 (pa_cons (pv 0) (pa_cons (pv 1) pa_nil))))
      (pss_cons (ps_if (pt_cmpR op_eq (pv 3) pe_str (nomark _))
        (pss_one ps_never)
        pss_nil)
      (pss_cons (ps_if (pt_cmpR op_notIn_seq (pv 3) (pe_tup (pa_cons pe_str (pa_cons pe_str pa_nil))) (by rfl))
        (pss_one ps_never)
        pss_nil)
      (pss_cons (ps_set (i := 4) sc_get_item.nd rfl (.inl rfl) (pe_ifExp (pt_cmpR op_eq (pv 3) pe_str (nomark _)) (pe_fld (pe_meth (pv 0) L.c_Store.cl L.Store_at.m G_Store_at (hr.mono (by omega)) L.Store_at.b .nil pass0 (pa_cons (pv 1) pa_nil)) rfl) (pv 1)))
      (pss_cons (ps_expr (pe_callS G_check_kind (hr.mono (by omega)) (by rfl) L.check_kind.g L.check_kind.F.kp L.check_kind.b (fun σ => passAt (takes_of rfl rfl rfl rfl) σ) (pa_cons (pv 0) (pa_cons (pv 2) (pa_cons pe_str pa_nil)))))
      (pss_cons (ps_expr (pe_callS G_check_place (hr.mono (by omega)) (by rfl) L.check_place.g L.check_place.F.kp L.check_place.b (fun σ => passAt (takes_of rfl rfl rfl rfl) σ) (pa_cons (pv 2) (pa_cons (pe_callB call_len_seq (by rfl) L.z_len PySem.boot_len (pa_cons (pv 4) pa_nil)) pa_nil))))
      (pss_one (ps_ret (pe_ix ix_list (pv 4) (pv 2) (fun _ _ => rfl)))))))))), ?_⟩
    refine ⟨_, rfl, _, rfl, a, S, _, _, rfl, hp.sm, hv, hp.ok, ?_⟩
    rw [hp.kind]
    have e1 : decide (V.str ("list" : Str) = V.str ("map" : Str)) = false := by decide +kernel
    have e2 : (if true = true then !inV (V.str ("list" : Str)) [V.str "list", V.str "text"] else inV (V.str ("list" : Str)) [V.str "list", V.str "text"]) = false := by decide +kernel
    have e3 : decide (V.str ("list" : Str) = V.str ("list" : Str)) = true := by decide +kernel
    have fi : ∀ S, fits S (.int i) "integer" = true := fun S => by
      unfold fits
      rw [show kindD S (.int i) = ("integer" : Str) from rfl, decide_eq_true (p := ("integer" : Str) = "integer") rfl, Bool.or_true]
    refine ⟨_, rfl, rfl, _, rfl, ifF e1 ?_⟩
    refine ⟨_, rfl, (by show 2 ≤ sizeLine; decide), fun p np => ⟨p, _, rfl, .inr (SqT.of upd_same), rfl, rfl, _, rfl, ifF e2 ?_⟩⟩
    have s1 := same_upd (o := .tup [.str "list", .str "text"]) np
    have hp1 := hp.same s1
    obtain ⟨dx1, vs1, g1, g2, g3⟩ := hp1.at_
    obtain ⟨ds1, hs1⟩ := hp1.sm.s_
    have hl1 := g3.len
    refine ⟨_, rfl, rfl, _, rfl, ifT e3 ?_⟩
    refine ⟨_, rfl, a.s, ds1, _, rfl, hs1, st_no _ _ _ _ (by decide +kernel) (by decide +kernel) (by decide +kernel) (by decide +kernel), _, rfl, a, S, b, x, n, rfl, hp1.sm, ⟨b, db, rfl, s1 _ _ hb⟩, hp1.x_, x, A.Parts, dx1, _, _, rfl, g1, L.c_Parts.cl, L.n_Parts_held, lk_hit, ?_⟩
    refine ⟨_, rfl, _, rfl, a, S, .int i, .int i, "integer", rfl, hp1.sm, rfl, trivial, by decide +kernel, fun _ => ?_, fun f => by rw [fi] at f; cases f⟩
    refine ⟨_, rfl, _, rfl, m, vs1, rfl, .inl (SqL.of g2), i, _, rfl, fun hg => ?_, fun hg => ?_⟩
    · have hi : i.toNat < ds.length := by omega
      obtain ⟨u, hu, hud⟩ := g3.at (List.getElem?_eq_getElem hi)
      refine ⟨_, rfl, _, rfl, m, vs1, i, u, rfl, rfl, SqL.of g2, ?_, ?_⟩
      · have := atI_nat (xs := vs1) (j := i.toNat) hu
        rw [Int.toNat_of_nonneg hg.1] at this
        exact this
      · exact (q _ s1).1 _ u hg.1 (List.getElem?_eq_getElem hi) hud
    · exact (q _ s1).2 (by omega)
def spStI (P : Program) (w : World) (A : Ads) : Sp := fun vs H Q E => ∃ (a : Sa) (S : St) (n : Nat) (x m : Addr) (ds : List Dv) (v u : V) (i : Int) (d : Dv), vs = [.ref a.s, v, .int i, u] ∧ Pt P w A H a S n x m ds ∧ Has A H v (.obj n) ∧ Has A H u d ∧
  (0 ≤ i ∧ i < ds.length → ∀ H' u', Ev a a H H' → Pt P w A H' a (S.put n (ds.set i.toNat d)) n x m (ds.set i.toNat d) → Has A H' u' d → Q u' H') ∧ (¬ (0 ≤ i ∧ i < ds.length) → Err E A.ScriptError H "IndexError" "index out of range")
theorem ok_set_item (L : Lib P K mg A) : FnOk P w K mg base (L2.CX P w) 5 L.set_item.f L.set_item.fd ["store", "x", "i", "value"] (spStI P w A) := by
  have G_kind_of : FnOk P w K mg base CX0 2 L.kind_of.f L.kind_of.fd ["store", "value"] (spKO P w A) := ok_kind_of L
  have G_check_kind : FnOk P w K mg base (L2.CX P w) 3 L.check_kind.f L.check_kind.fd ["store", "value", "kind"] (spCKX P w A) := ok_check_kind L
  have G_check_place : FnOk P w K mg base (L2.CX P w) 3 L.check_place.f L.check_place.fd ["index", "length"] (spCP A) := ok_check_place L
  have G_Store_at : FnOk P w K mg base CX0 1 L.Store_at.f L.Store_at.fd ["self", "ref"] (spAt P w A) := ok_Store_at L
  refine L.set_item.F.okX (k := 4) sc_set_item (fun vs H Q E h => ?_) (fun cdv A' outer s H vs Q E hr h => ?_)
  · obtain ⟨a, S, n, x, m, ds, v, u, i, d, rfl, _⟩ := h
    rfl
  · obtain ⟨a, S, n, x, m, ds, v, u, i, d, rfl, hp, hv, hu, q1, q2⟩ := h
    obtain ⟨dx, vs, h1, h2, h3⟩ := hp.at_
    have hl := h3.len
    obtain ⟨b, db, rfl, hb⟩ := id hv
    obtain ⟨ds0, hs0⟩ := hp.sm.s_
    refine ⟨_, (pss_cons (ps_set (i := 4) sc_set_item.nd rfl (.inl rfl) (pe_call G_kind_of (hr.mono (by omega)) (by rfl) L.kind_of.g L.kind_of.F.kp L.kind_of.b .nil pass0 (pa_cons (pv 0) (pa_cons (pv 1) pa_nil))))
      (pss_cons (ps_if (pt_cmpR op_eq (pv 4) pe_str (nomark _))
        (pss_cons ps_never
      (pss_one (ps_ret (pv 3))))
        pss_nil)
      (pss_cons (ps_if (pt_cmpR op_ne (pv 4) pe_str (nomark _))
        (pss_one ps_never)
        pss_nil)
      (pss_cons (ps_set (i := 5) sc_set_item.nd rfl (.inl rfl) (pe_fld (pe_meth (pv 0) L.c_Store.cl L.Store_at.m G_Store_at (hr.mono (by omega)) L.Store_at.b .nil pass0 (pa_cons (pv 1) pa_nil)) rfl))
      (pss_cons (ps_expr (pe_callS G_check_kind (hr.mono (by omega)) (by rfl) L.check_kind.g L.check_kind.F.kp L.check_kind.b (fun σ => passAt (takes_of rfl rfl rfl rfl) σ) (pa_cons (pv 0) (pa_cons (pv 2) (pa_cons pe_str pa_nil)))))
      (pss_cons (ps_expr (pe_callS G_check_place (hr.mono (by omega)) (by rfl) L.check_place.g L.check_place.F.kp L.check_place.b (fun σ => passAt (takes_of rfl rfl rfl rfl) σ) (pa_cons (pv 2) (pa_cons (pe_callB call_len_seq (by rfl) L.z_len PySem.boot_len (pa_cons (pv 5) pa_nil)) pa_nil))))
      (pss_cons (ps_asg (pv 3) (pg_sub (pv 5) (pv 2) set_list))
      (pss_one (ps_ret (pv 3)))))))))), ?_⟩
    refine ⟨_, rfl, _, rfl, a, S, _, _, rfl, hp.sm, hv, hp.ok, ?_⟩
    rw [hp.kind]
    have e1 : decide (V.str ("list" : Str) = V.str ("map" : Str)) = false := by decide +kernel
    have e2 : (if true = true then !inV (V.str ("list" : Str)) [V.str "list", V.str "text"] else inV (V.str ("list" : Str)) [V.str "list", V.str "text"]) = false := by decide +kernel
    have e3 : decide (V.str ("list" : Str) = V.str ("list" : Str)) = true := by decide +kernel
    have fi : ∀ S, fits S (.int i) "integer" = true := fun S => by
      unfold fits
      rw [show kindD S (.int i) = ("integer" : Str) from rfl, decide_eq_true (p := ("integer" : Str) = "integer") rfl, Bool.or_true]
    refine ⟨_, rfl, rfl, _, rfl, ifF e1 ?_⟩
    refine ⟨_, rfl, rfl, _, rfl, ifF (by decide +kernel) ?_⟩
    refine ⟨_, rfl, a.s, ds0, _, rfl, hs0, st_no _ _ _ _ (by decide +kernel) (by decide +kernel) (by decide +kernel) (by decide +kernel), _, rfl, a, S, b, x, n, rfl, hp.sm, ⟨b, db, rfl, hb⟩, hp.x_, x, A.Parts, dx, _, _, rfl, h1, L.c_Parts.cl, L.n_Parts_held, lk_hit, ?_⟩
    refine ⟨_, rfl, _, rfl, a, S, .int i, .int i, "integer", rfl, hp.sm, rfl, trivial, by decide +kernel, fun _ => ?_, fun f => by rw [fi] at f; cases f⟩
    refine ⟨_, rfl, _, rfl, m, vs, rfl, .inl (SqL.of h2), i, _, rfl, fun hg => ?_, fun hg => ?_⟩
    · have hi : i.toNat < ds.length := by omega
      have hix : ixN vs.length i = some i.toNat := by
        have := ixN_nat (i := i.toNat) (n := vs.length) (by omega)
        rw [Int.toNat_of_nonneg hg.1] at this
        exact this
      refine ⟨_, rfl, _, rfl, _, rfl, m, vs, i, i.toNat, rfl, rfl, h2, hix, ?_⟩
      obtain ⟨ev, pt⟩ := hp.write (us := vs.set i.toNat u) (es := ds.set i.toNat d) (h3.set _ hu)
      exact ⟨_, rfl, q1 (by omega) _ u ev pt ((ev.fr.vk L hp.sm).v _ _ hu)⟩
    · exact q2 (by omega)
end
end My
namespace My
open PySem L2 SX XT XS XE XD XL XZ
open C8 (pss_cut tCut cutS_slice pe_gc)
theorem Cl.klen : ∀ c : Cl, c.args.length = c.kinds.length ∧ c.args.length ≤ 10
  | .push _ | .insert _ _ | .pop | .remove _ | .length | .slice _ _ | .contains _ | .find _ | .count _ | .reverse | .copy => by simp [Cl.args, Cl.kinds]
theorem Cl.kin : ∀ c : Cl, ∀ k ∈ c.kinds, k ∈ kinds3 := fun c => by
  have h1 : ∀ k ∈ (["any"] : List Str), k ∈ kinds3 := by decide +kernel
  have h2 : ∀ k ∈ (["integer", "any"] : List Str), k ∈ kinds3 := by decide +kernel
  have h3 : ∀ k ∈ (["integer"] : List Str), k ∈ kinds3 := by decide +kernel
  have h4 : ∀ k ∈ (["integer", "integer"] : List Str), k ∈ kinds3 := by decide +kernel
  have h0 : ∀ k ∈ ([] : List Str), k ∈ kinds3 := by decide +kernel
  cases c <;> first | exact h0 | exact h1 | exact h2 | exact h3 | exact h4
theorem fits_any (S : St) (d : Dv) : fits S d "any" = true := by
  unfold fits
  rw [decide_eq_true (p := ("any" : Str) = "any") rfl, Bool.true_or]
theorem fits_int (S : St) (i : Int) : fits S (.int i) "integer" = true := by
  unfold fits
  rw [show kindD S (.int i) = ("integer" : Str) from rfl, decide_eq_true (p := ("integer" : Str) = "integer") rfl, Bool.or_true]
theorem Cl.fitsA (S : St) : ∀ c : Cl, My.fitsA S c.args c.kinds = true
  | .push _ | .insert _ _ | .pop | .remove _ | .length | .slice _ _ | .contains _ | .find _ | .count _ | .reverse | .copy => by simp [Cl.args, Cl.kinds, My.fitsA, fits_any, fits_int]
/-- calls that are refused -/
inductive Bd where
  | insert | remove | slice | extend
def Bd.nm : Bd → Str
  | .insert => "insert" | .remove => "remove" | .slice => "slice" | .extend => "extend"
def Bd.args : Bd → List Dv
  | .insert => [.str "a", .int 1] | .remove => [.bl true] | .slice => [.int 0, .non] | .extend => [.int 3]
def Bd.kinds : Bd → List Str
  | .insert => ["integer", "any"] | .remove => ["integer"] | .slice => ["integer", "integer"] | .extend => ["list"]
theorem Bd.klen : ∀ b : Bd, b.args.length = b.kinds.length ∧ b.args.length ≤ 2
  | .insert | .remove | .slice | .extend => by simp [Bd.args, Bd.kinds]
theorem Bd.kin : ∀ b : Bd, ∀ k ∈ b.kinds, k ∈ kinds3
  | .insert | .remove | .slice | .extend => by decide +kernel
theorem Bd.fitsA (S : St) : ∀ b : Bd, My.fitsA S b.args b.kinds = false
  | .insert => by
    have : fits S (.str "a") "integer" = false := by unfold fits; rw [show kindD S (.str "a") = ("text" : Str) from rfl]; decide +kernel
    simp [Bd.args, Bd.kinds, My.fitsA, this]
  | .remove => by
    have : fits S (.bl true) "integer" = false := by unfold fits; rw [show kindD S (.bl true) = ("boolean" : Str) from rfl]; decide +kernel
    simp [Bd.args, Bd.kinds, My.fitsA, this]
  | .slice => by
    have : fits S .non "integer" = false := by unfold fits; rw [show kindD S .non = ("null" : Str) from rfl]; decide +kernel
    simp [Bd.args, Bd.kinds, My.fitsA, this]
  | .extend => by
    have : fits S (.int 3) "list" = false := by unfold fits; rw [show kindD S (.int 3) = ("integer" : Str) from rfl]; decide +kernel
    simp [Bd.args, Bd.kinds, My.fitsA, this]
def missN : List Str := ["keys", "upper", "pushed", "", "size"]
/-- the calls of the law -/
inductive Kl where
  | ok (c : Cl)
  | bad (b : Bd) (more : Bool)
  | miss (b : Bd) (z : Str)
def Kl.nm : Kl → Str
  | .ok c => c.nm | .bad b _ => b.nm | .miss _ z => z
def Kl.args : Kl → List Dv
  | .ok c => c.args | .bad b m => if m = true then b.args ++ [.int 0] else b.args | .miss b _ => b.args
def Kl.q (P : Program) (w : World) (A : Ads) (a : Sa) (S : St) (n : Nat) (x : Addr) (row : List Dv) (H : Hp) (Q : VK) (E : XK) : Kl → Prop
  | .ok c => (∀ d ∈ c.args, okV S d) ∧ (c.res row).q P w A a S n x H Q E
  | .bad b m => ∀ H', Same H H' → if m = true then Err E A.ScriptError H' "ArityError" (arM b.kinds.length (b.args.length + 1)) else Err E A.ScriptError H' "KindError" "wrong argument"
  | .miss b z => z ∈ missN ∧ ∀ H', Same H H' → Err E A.ScriptError H' "FieldError" (("list" : Str) ++ (" has no field " : Str) ++ z)
theorem Rs.mono {P : Program} {w : World} {A : Ads} {a : Sa} {S : St} {n : Nat} {x : Addr} {H : Hp} {Q Q' : VK} {E E' : XK} (hq : ∀ v H', Q v H' → Q' v H') (he : ∀ c d H', E c d H' → E' c d H') : ∀ {r : Rs}, r.q P w A a S n x H Q E → r.q P w A a S n x H Q' E'
  | .val _ _, h => fun H' a' m' v ev p hv => hq _ _ (h H' a' m' v ev p hv)
  | .new _, h => fun H' r a' ev p hv => hq _ _ (h H' r a' ev p hv)
  | .err _ _, h => fun H' s => (h H' s).mono he
theorem Kl.mono {P : Program} {w : World} {A : Ads} {a : Sa} {S : St} {n : Nat} {x : Addr} {row : List Dv} {H : Hp} {Q Q' : VK} {E E' : XK} (hq : ∀ v H', Q v H' → Q' v H') (he : ∀ c d H', E c d H' → E' c d H') : ∀ {k : Kl}, k.q P w A a S n x row H Q E → k.q P w A a S n x row H Q' E'
  | .ok _, h => ⟨h.1, Rs.mono hq he h.2⟩
  | .bad _ true, h => fun H' s => by have := h H' s; rw [if_pos rfl] at this ⊢; exact this.mono he
  | .bad _ false, h => fun H' s => by have := h H' s; rw [if_neg nofun] at this ⊢; exact this.mono he
  | .miss _ _, h => ⟨h.1, fun H' s => (h.2 H' s).mono he⟩
theorem Kl.q_same {P : Program} {w : World} {A : Ads} {a : Sa} {S : St} {n : Nat} {x : Addr} {row : List Dv} {H H2 : Hp} {Q : VK} {E : XK} (s : Same H H2) : ∀ {k : Kl}, k.q P w A a S n x row H Q E → k.q P w A a S n x row H2 Q E
  | .ok _, h => ⟨h.1, Rs.q_same s h.2⟩
  | .bad _ _, h => fun H' s' => h H' (s.trans s')
  | .miss _ _, h => ⟨h.1, fun H' s' => h.2 H' (s.trans s')⟩
section
variable {P : Program} {w : World} {K : PySem.W.Frag} {mg : Str → Option Value} {base : Heap} {A : Ads}
def Cl.fn (L : Lib P K mg A) : Cl → Addr
  | .push _ => L.push.f | .insert _ _ => L.insert.f | .pop => L.take_last.f | .remove _ => L.take_out_lists.f | .length => L.length_lists.f | .slice _ _ => L.part_between_lists.f
  | .contains _ => L.contains_lists.f | .find _ => L.find_lists.f | .count _ => L.count.f | .reverse => L.turn_around_lists.f | .copy => L.copy_lists.f
theorem held (L : Lib P K mg A) : ∀ c : Cl, HeldX P w K mg base 7 (c.fn L) (spAct P w A c)
  | .push d => ⟨_, _, ok_push L d, L.push.F.kp, L.push.b⟩
  | .insert i d => ⟨_, _, ok_insert L i d, L.insert.F.kp, L.insert.b⟩
  | .pop => ⟨_, _, ok_take_last L, L.take_last.F.kp, L.take_last.b⟩
  | .remove i => ⟨_, _, ok_take_out L i, L.take_out_lists.F.kp, L.take_out_lists.b⟩
  | .length => ⟨_, _, ok_length L, L.length_lists.F.kp, L.length_lists.b⟩
  | .slice i j => ⟨_, _, ok_part_between L i j, L.part_between_lists.F.kp, L.part_between_lists.b⟩
  | .contains d => ⟨_, _, ok_contains L d, L.contains_lists.F.kp, L.contains_lists.b⟩
  | .find d => ⟨_, _, ok_find L d, L.find_lists.F.kp, L.find_lists.b⟩
  | .count d => ⟨_, _, ok_count L d, L.count.F.kp, L.count.b⟩
  | .reverse => ⟨_, _, ok_turn_around L, L.turn_around_lists.F.kp, L.turn_around_lists.b⟩
  | .copy => ⟨_, _, ok_copy L, L.copy_lists.F.kp, L.copy_lists.b⟩
/-- the table of the methods of lists -/
structure Fd (w : World) (L : Lib P K mg A) where
  d : Addr
  es : Array DictEntry
  n : Nat
  kd : KDict K w d es n
  gd : mg "LIST_METHODS" = some (.ref d)
  at_ : ∀ c : Cl, ∃ t k, PySem.W.nsIn K d c.nm = some (some (.ref t)) ∧ (∀ H, SqT K H t [.ref (c.fn L), .ref k]) ∧ ∀ H, SqT K H k (c.kinds.map V.str)
  bad : ∀ b : Bd, ∃ t f k, PySem.W.nsIn K d b.nm = some (some (.ref t)) ∧ (∀ H, SqT K H t [.ref f, .ref k]) ∧ ∀ H, SqT K H k (b.kinds.map V.str)
  miss : ∀ z ∈ missN, PySem.W.nsIn K d z = some none
def spMF (K : PySem.W.Frag) (d : Addr) : Sp := fun vs H Q _ => ∃ (z : Str) (r : Option Value), vs = [.str "list", .str z] ∧ PySem.W.nsIn K d z = some r ∧ ((r = none ∧ Q .non H) ∨ ∃ t, r = some (.ref t) ∧ Q (.ref t) H)
theorem ok_method_for (L : Lib P K mg A) (D : Fd w L) : FnOk P w K mg base CX0 1 L.method_for.f L.method_for.fd ["owner", "name"] (spMF K D.d) := by
  refine L.method_for.F.ok sc_method_for (fun vs H Q E h => ?_) (fun cdv A' outer s H vs Q E hr h => ?_)
  · obtain ⟨z, r, rfl, _⟩ := h
    rfl
  · obtain ⟨z, r, rfl, e, q⟩ := h
    refine ⟨_, (pss_cons (ps_if (pt_cmpR op_eq (pv 0) pe_str (nomark _))
        (pss_one (ps_ret (pe_kget D.kd (pe_gc (v := .ref D.d) (by rfl) ⟨_, D.gd, rfl⟩) (pv 1))))
        pss_nil)
      (pss_cons ps_never
      (pss_cons ps_never
      (pss_one ps_never)))), ?_⟩
    refine ⟨_, rfl, rfl, _, rfl, ifT (by decide +kernel) ?_⟩
    refine ⟨rfl, _, rfl, _, rfl, z, r, rfl, e, ?_⟩
    rcases q with ⟨rfl, q⟩ | ⟨t, rfl, q⟩
    · exact .inl ⟨rfl, q⟩
    · exact .inr ⟨_, .ref t, rfl, rfl, q⟩
def spCM (P : Program) (w : World) (K : PySem.W.Frag) (A : Ads) : Sp := fun vs H Q E => ∃ (a : Sa) (S : St) (n : Nat) (x m : Addr) (row : List Dv) (v : V) (l : Addr) (us : List V) (k : Kl), vs = [.ref a.s, v, .str k.nm, .ref l] ∧ Pt P w A H a S n x m row ∧ Has A H v (.obj n) ∧ SqL K H l us ∧ Hs A H us k.args ∧ row.length ≤ 1000 ∧ S.things.length < 100000 ∧ k.q P w A a S n x row H Q E
theorem ok_call_method (L : Lib P K mg A) (D : Fd w L) : FnOk P w K mg base (L2.CX P w) 8 L.call_method.f L.call_method.fd ["store", "x", "name", "values"] (spCM P w K A) := by
  have G_kind_of : FnOk P w K mg base CX0 2 L.kind_of.f L.kind_of.fd ["store", "value"] (spKO P w A) := ok_kind_of L
  have G_method_for : FnOk P w K mg base CX0 1 L.method_for.f L.method_for.fd ["owner", "name"] (spMF K D.d) := ok_method_for L D
  have G_refuse_field : FnOk P w K mg base (L2.CX P w) 3 L.refuse_field.f L.refuse_field.fd ["store", "x", "name"] (spRF P w A) := ok_refuse_field L
  have G_check_arguments : FnOk P w K mg base (L2.CX P w) 4 L.check_arguments.f L.check_arguments.fd ["store", "values", "kinds"] (spCAX P w K A) := ok_check_arguments L
  have G_Store_at : FnOk P w K mg base CX0 1 L.Store_at.f L.Store_at.fd ["self", "ref"] (spAt P w A) := ok_Store_at L
  refine L.call_method.F.okX (k := 7) sc_call_method (fun vs H Q E h => ?_) (fun cdv A' outer s H vs Q E hr h => ?_)
  · obtain ⟨a, S, n, x, m, row, v, l, us, k, rfl, _⟩ := h
    rfl
  · obtain ⟨a, S, n, x, m, row, v, l, us, k, rfl, hp, hv, hl, hu, hz, hb, q⟩ := h
    obtain ⟨b, db, rfl, hb0⟩ := id hv
    obtain ⟨ds0, hs0⟩ := hp.sm.s_
    cases k with
    | miss bd z =>
      obtain ⟨hz1, q⟩ := q
      have hS : ∀ f sp, (fun _ : Addr => (none : Option Sp)) f = some sp → HeldX P w K mg base 7 f sp := fun f sp e => by cases e
      refine ⟨_, (pss_cons (ps_set (i := 4) sc_call_method.nd rfl (.inl rfl) (pe_call G_method_for (hr.mono (by omega)) (by rfl) L.method_for.g L.method_for.F.kp L.method_for.b .nil pass0 (pa_cons (pe_call G_kind_of (hr.mono (by omega)) (by rfl) L.kind_of.g L.kind_of.F.kp L.kind_of.b .nil pass0 (pa_cons (pv 0) (pa_cons (pv 1) pa_nil))) (pa_cons (pv 2) pa_nil))))
      (pss_cons (ps_if (pt_cmpR op_isN (pv 4) pe_non (nomark _))
        (pss_one (ps_expr (pe_callS G_refuse_field (hr.mono (by omega)) (by rfl) L.refuse_field.g L.refuse_field.F.kp L.refuse_field.b (fun σ => passAt (takes_of rfl rfl rfl rfl) σ) (pa_cons (pv 0) (pa_cons (pv 1) (pa_cons (pv 2) pa_nil))))))
        pss_nil)
      (pss_cons (ps_asg (pv 4) (pg_tup (by rfl) (pgs_cons (pg_name (i := 5) sc_call_method.nd rfl (.inl rfl)) (pgs_cons (pg_name (i := 6) sc_call_method.nd rfl (.inl rfl)) pgs_nil))))
      (pss_cons (ps_expr (pe_callS G_check_arguments (hr.mono (by omega)) (by rfl) L.check_arguments.g L.check_arguments.F.kp L.check_arguments.b (fun σ => passAt (takes_of rfl rfl rfl rfl) σ) (pa_cons (pv 0) (pa_cons (pv 3) (pa_cons (pv 6) pa_nil)))))
      (pss_cons (ps_set (i := 7) sc_call_method.nd rfl (.inl rfl) (pe_ifExp (pt_val (pe_callB call_isi (by rfl) L.z_isinstance (by decide +kernel) (pa_cons (pv 1) (pa_cons (pe_bltn (v := .ty "str") (by rfl) L.z_str (by decide +kernel) rfl) pa_nil)))) (pv 1) (pe_meth (pv 0) L.c_Store.cl L.Store_at.m G_Store_at (hr.mono (by omega)) L.Store_at.b .nil pass0 (pa_cons (pv 1) pa_nil))))
      (pss_one (ps_ret (XS.pe_callXS (k := 7) (i := 5) hS (hr.mono (by omega)) rfl (.inl rfl) (fun σ => passAt (takes_of rfl rfl rfl rfl) σ) (pa_cons (pv 0) (pa_cons (pv 7) (StX.pa_star (pv 3) pa_nil))))))))))), ?_⟩
      refine ⟨_, rfl, _, rfl, a, S, _, _, rfl, hp.sm, hv, hp.ok, ?_⟩
      rw [hp.kind]
      refine ⟨_, rfl, z, none, rfl, D.miss z hz1, .inl ⟨rfl, ?_⟩⟩
      refine ⟨_, rfl, rfl, _, rfl, ifT (decide_eq_true rfl) ?_⟩
      have zl : ∀ z ∈ missN, z.length ≤ 1000 := by decide +kernel
      refine ⟨_, rfl, _, rfl, _, rfl, a, S, _, _, z, rfl, hp.sm, hv, hp.ok, zl z hz1, ?_⟩
      rw [hp.kind]
      exact q H Same.rf
    | bad bd more =>
      have hS : ∀ f sp, (fun _ : Addr => (none : Option Sp)) f = some sp → HeldX P w K mg base 7 f sp := fun f sp e => by cases e
      obtain ⟨t, f, kk, e1, ht, hk⟩ := D.bad bd
      obtain ⟨len1, len2⟩ := bd.klen
      refine ⟨_, (pss_cons (ps_set (i := 4) sc_call_method.nd rfl (.inl rfl) (pe_call G_method_for (hr.mono (by omega)) (by rfl) L.method_for.g L.method_for.F.kp L.method_for.b .nil pass0 (pa_cons (pe_call G_kind_of (hr.mono (by omega)) (by rfl) L.kind_of.g L.kind_of.F.kp L.kind_of.b .nil pass0 (pa_cons (pv 0) (pa_cons (pv 1) pa_nil))) (pa_cons (pv 2) pa_nil))))
      (pss_cons (ps_if (pt_cmpR op_isN (pv 4) pe_non (nomark _))
        (pss_one (ps_expr (pe_callS G_refuse_field (hr.mono (by omega)) (by rfl) L.refuse_field.g L.refuse_field.F.kp L.refuse_field.b (fun σ => passAt (takes_of rfl rfl rfl rfl) σ) (pa_cons (pv 0) (pa_cons (pv 1) (pa_cons (pv 2) pa_nil))))))
        pss_nil)
      (pss_cons (ps_asg (pv 4) (pg_tup (by rfl) (pgs_cons (pg_name (i := 5) sc_call_method.nd rfl (.inl rfl)) (pgs_cons (pg_name (i := 6) sc_call_method.nd rfl (.inl rfl)) pgs_nil))))
      (pss_cons (ps_expr (pe_callS G_check_arguments (hr.mono (by omega)) (by rfl) L.check_arguments.g L.check_arguments.F.kp L.check_arguments.b (fun σ => passAt (takes_of rfl rfl rfl rfl) σ) (pa_cons (pv 0) (pa_cons (pv 3) (pa_cons (pv 6) pa_nil)))))
      (pss_cons (ps_set (i := 7) sc_call_method.nd rfl (.inl rfl) (pe_ifExp (pt_val (pe_callB call_isi (by rfl) L.z_isinstance (by decide +kernel) (pa_cons (pv 1) (pa_cons (pe_bltn (v := .ty "str") (by rfl) L.z_str (by decide +kernel) rfl) pa_nil)))) (pv 1) (pe_meth (pv 0) L.c_Store.cl L.Store_at.m G_Store_at (hr.mono (by omega)) L.Store_at.b .nil pass0 (pa_cons (pv 1) pa_nil))))
      (pss_one (ps_ret (XS.pe_callXS (k := 7) (i := 5) hS (hr.mono (by omega)) rfl (.inl rfl) (fun σ => passAt (takes_of rfl rfl rfl rfl) σ) (pa_cons (pv 0) (pa_cons (pv 7) (StX.pa_star (pv 3) pa_nil))))))))))), ?_⟩
      refine ⟨_, rfl, _, rfl, a, S, _, _, rfl, hp.sm, hv, hp.ok, ?_⟩
      rw [hp.kind]
      refine ⟨_, rfl, bd.nm, _, rfl, e1, .inr ⟨t, rfl, ?_⟩⟩
      refine ⟨_, rfl, rfl, _, rfl, ifF (decide_eq_false nofun) ?_⟩
      refine ⟨_, rfl, t, _, rfl, ht H, rfl, ?_⟩
      refine ⟨_, _, rfl, _, _, rfl, rfl, ?_⟩
      have okv : ∀ d ∈ (Kl.bad bd more).args, okV S d := by
        intro d hd
        cases bd <;> cases more <;> simp [Kl.args, Bd.args] at hd <;> first | (rcases hd with h | h | h <;> subst h <;> trivial) | (rcases hd with h | h <;> subst h <;> trivial) | (subst hd; trivial)
      have al : (Kl.bad bd more).args.length ≤ 10 := by
        cases more <;> simp [Kl.args] <;> omega
      refine ⟨_, rfl, _, rfl, _, rfl, a, S, l, kk, us, _, bd.kinds, rfl, hp.sm, hl, hu, okv, al, hk, bd.kin, by omega, fun ne => ?_, fun e H1 s1 => ⟨fun f => ?_, fun f => ?_⟩⟩
      · cases more with
        | true =>
          have := q H Same.rf
          rw [if_pos rfl] at this
          have e : (Kl.bad bd true).args.length = bd.args.length + 1 := by simp [Kl.args]
          rw [e]
          exact this
        | false => exact absurd len1 ne
      · cases more with
        | true =>
          exfalso
          have : bd.args.length + 1 = bd.kinds.length := by simpa [Kl.args] using e
          omega
        | false =>
          have := bd.fitsA S
          rw [show (Kl.bad bd false).args = bd.args from rfl, this] at f
          cases f
      · cases more with
        | true =>
          exfalso
          have : bd.args.length + 1 = bd.kinds.length := by simpa [Kl.args] using e
          omega
        | false =>
          have := q H1 s1
          rw [if_neg nofun] at this
          exact this
    | ok c =>
      have hS : ∀ f sp, (fun g => if g = c.fn L then some (spAct P w A c) else none) f = some sp → HeldX P w K mg base 7 f sp := fun f sp e => by
        by_cases h : f = c.fn L
        · simp only [if_pos h] at e
          cases e
          subst h
          exact held L c
        · simp only [if_neg h] at e
          cases e
      obtain ⟨okv, q⟩ := q
      obtain ⟨t, kk, e1, ht, hk⟩ := D.at_ c
      obtain ⟨len1, len2⟩ := c.klen
      refine ⟨_, (pss_cons (ps_set (i := 4) sc_call_method.nd rfl (.inl rfl) (pe_call G_method_for (hr.mono (by omega)) (by rfl) L.method_for.g L.method_for.F.kp L.method_for.b .nil pass0 (pa_cons (pe_call G_kind_of (hr.mono (by omega)) (by rfl) L.kind_of.g L.kind_of.F.kp L.kind_of.b .nil pass0 (pa_cons (pv 0) (pa_cons (pv 1) pa_nil))) (pa_cons (pv 2) pa_nil))))
      (pss_cons (ps_if (pt_cmpR op_isN (pv 4) pe_non (nomark _))
        (pss_one (ps_expr (pe_callS G_refuse_field (hr.mono (by omega)) (by rfl) L.refuse_field.g L.refuse_field.F.kp L.refuse_field.b (fun σ => passAt (takes_of rfl rfl rfl rfl) σ) (pa_cons (pv 0) (pa_cons (pv 1) (pa_cons (pv 2) pa_nil))))))
        pss_nil)
      (pss_cons (ps_asg (pv 4) (pg_tup (by rfl) (pgs_cons (pg_name (i := 5) sc_call_method.nd rfl (.inl rfl)) (pgs_cons (pg_name (i := 6) sc_call_method.nd rfl (.inl rfl)) pgs_nil))))
      (pss_cons (ps_expr (pe_callS G_check_arguments (hr.mono (by omega)) (by rfl) L.check_arguments.g L.check_arguments.F.kp L.check_arguments.b (fun σ => passAt (takes_of rfl rfl rfl rfl) σ) (pa_cons (pv 0) (pa_cons (pv 3) (pa_cons (pv 6) pa_nil)))))
      (pss_cons (ps_set (i := 7) sc_call_method.nd rfl (.inl rfl) (pe_ifExp (pt_val (pe_callB call_isi (by rfl) L.z_isinstance (by decide +kernel) (pa_cons (pv 1) (pa_cons (pe_bltn (v := .ty "str") (by rfl) L.z_str (by decide +kernel) rfl) pa_nil)))) (pv 1) (pe_meth (pv 0) L.c_Store.cl L.Store_at.m G_Store_at (hr.mono (by omega)) L.Store_at.b .nil pass0 (pa_cons (pv 1) pa_nil))))
      (pss_one (ps_ret (XS.pe_callXS (k := 7) (i := 5) hS (hr.mono (by omega)) rfl (.inl rfl) (fun σ => passAt (takes_of rfl rfl rfl rfl) σ) (pa_cons (pv 0) (pa_cons (pv 7) (StX.pa_star (pv 3) pa_nil))))))))))), ?_⟩
      refine ⟨_, rfl, _, rfl, a, S, _, _, rfl, hp.sm, hv, hp.ok, ?_⟩
      rw [hp.kind]
      refine ⟨_, rfl, c.nm, _, rfl, e1, .inr ⟨t, rfl, ?_⟩⟩
      refine ⟨_, rfl, rfl, _, rfl, ifF (decide_eq_false nofun) ?_⟩
      refine ⟨_, rfl, t, _, rfl, ht H, rfl, ?_⟩
      refine ⟨_, _, rfl, _, _, rfl, rfl, ?_⟩
      refine ⟨_, rfl, _, rfl, _, rfl, a, S, l, kk, us, c.args, c.kinds, rfl, hp.sm, hl, hu, okv, len2, hk, c.kin, by omega, fun ne => absurd len1 ne, fun e H1 s1 => ⟨fun f => ?_, fun f => by rw [c.fitsA S] at f; cases f⟩⟩
      have hp1 := hp.same s1
      obtain ⟨ds1, hs1⟩ := hp1.sm.s_
      have hv1 : Has A H1 (.ref b) (.obj n) := hv.sv (Same.sv s1)
      refine ⟨_, rfl, .ref b, .ty "str", _, _, _, rfl, .ty _, has_ty L hv1, kit_str L (.obj n), _, rfl, iteF ?_⟩
      refine ⟨_, rfl, a.s, ds1, _, rfl, hs1, st_no _ _ _ _ (by decide +kernel) (by decide +kernel) (by decide +kernel) (by decide +kernel), _, rfl, a, S, b, x, n, rfl, hp1.sm, hv1, hp1.x_, ?_⟩
      exact ⟨c.fn L, spAct P w A c, rfl, if_pos rfl, _, rfl, _, rfl, _, rfl, l, _, rfl, .inr (s1.seq hl), a, S, n, x, m, row, us, by rw [List.append_nil], hp1, hu.imp fun _ _ h => h.sv (Same.sv s1), hz, hb, Rs.q_same s1 q⟩
end
end My
namespace My
open PySem L2 SX XT XS XE XD XL XZ
open C8 (pss_cut tCut cutS_slice pe_gc)
theorem units65 {k : Nat} {A : Around} (r : Room k A) : A.units + 65 < cLine := by have := r.un; omega
section
variable {P : Program} {w : World} {K : PySem.W.Frag} {mg : Str → Option Value} {base : Heap} {A : Ads}
theorem ss_shape {x y : Str} (hx : PyData.strOk x = true) (hy : PyData.strOk y = true) : SeqAt.shaped (.tuple [.str x, .str y]) = true := by
  simp [SeqAt.shaped, PyData.canLay0, PyData.canLayAll0, PyData.depth, PyData.depthAll, hx, hy]
theorem eqv_str (a b : Str) : PyData.eqv (.str a) (.str b) = decide (a = b) := by
  unfold PyData.eqv
  by_cases h : a = b
  · subst h; simp
  · simp [h]
theorem eqv_ss (a b c d : Str) : PyData.eqv (.tuple [.str a, .str b]) (.tuple [.str c, .str d]) = (decide (a = c) && decide (b = d)) := by
  rw [show PyData.eqv (.tuple [.str a, .str b]) (.tuple [.str c, .str d]) = PyData.eqvAll [.str a, .str b] [.str c, .str d] by unfold PyData.eqv; rfl]
  simp only [PyData.eqvAll, eqv_str, Bool.and_true]
theorem ss_dpT {H : Hp} {p : Addr} {x y : Str} (h : SqT K H p [.str x, .str y]) : Dp K H (.ref p) (.tuple [.str x, .str y]) := .tup h (.cons (.str _) (.cons (.str _) .nil))
/-! ### values alike -/
def spS2 (A : Ads) : Sp := fun vs H Q _ => ∃ v1 v2 d1 d2, vs = [v1, v2] ∧ Has A H v1 d1 ∧ Has A H v2 d2 ∧ Q (.bl (decide (d1 = d2))) H
theorem ok_law_same (L : Lib P K mg A) : FnOk P w K mg base CX0 2 L.law_same.f L.law_same.fd ["x", "y"] (spS2 A) := by
  refine L.law_same.F.ok sc_law_same (fun vs H Q E h => ?_) (fun cdv A' outer s H vs Q E hr h => ?_)
  · obtain ⟨v1, v2, d1, d2, rfl, _⟩ := h
    rfl
  · obtain ⟨v1, v2, d1, d2, rfl, h1, h2, q⟩ := h
    have qf : d1 ≠ d2 → Q (.bl false) H := fun ne => by rw [decide_eq_false ne] at q; exact q
    refine ⟨_, (pss_cons (ps_if (PW.pt (pw_or (pt_val (pe_callB call_isi (by rfl) L.z_isinstance (by decide +kernel) (pa_cons (pv 0) (pa_cons (pe_bltn (v := .ty "bool") (by rfl) L.z_bool (by decide +kernel) rfl) pa_nil)))) (pw_or1 (pt_val (pe_callB call_isi (by rfl) L.z_isinstance (by decide +kernel) (pa_cons (pv 1) (pa_cons (pe_bltn (v := .ty "bool") (by rfl) L.z_bool (by decide +kernel) rfl) pa_nil)))))))
        (pss_one (ps_ret (pe_and (pe_callB call_isi (by rfl) L.z_isinstance (by decide +kernel) (pa_cons (pv 0) (pa_cons (pe_bltn (v := .ty "bool") (by rfl) L.z_bool (by decide +kernel) rfl) pa_nil))) (pe_and (pe_callB call_isi (by rfl) L.z_isinstance (by decide +kernel) (pa_cons (pv 1) (pa_cons (pe_bltn (v := .ty "bool") (by rfl) L.z_bool (by decide +kernel) rfl) pa_nil))) (pe_one (pe_cmpR (op_eqM L (hr.mono (by omega))) (pv 0) (pv 1) (nomark _)))))))
        pss_nil)
      (pss_cons (ps_if (PW.pt (pw_or (pt_val (pe_callB call_isi (by rfl) L.z_isinstance (by decide +kernel) (pa_cons (pv 0) (pa_cons (pe_gc (v := .ref A.Ref) (by rfl) ⟨_, L.c_Ref.g, rfl⟩) pa_nil)))) (pw_or1 (pt_val (pe_callB call_isi (by rfl) L.z_isinstance (by decide +kernel) (pa_cons (pv 1) (pa_cons (pe_gc (v := .ref A.Ref) (by rfl) ⟨_, L.c_Ref.g, rfl⟩) pa_nil)))))))
        (pss_one (ps_ret (pe_and (pe_callB call_isi (by rfl) L.z_isinstance (by decide +kernel) (pa_cons (pv 0) (pa_cons (pe_gc (v := .ref A.Ref) (by rfl) ⟨_, L.c_Ref.g, rfl⟩) pa_nil))) (pe_and (pe_callB call_isi (by rfl) L.z_isinstance (by decide +kernel) (pa_cons (pv 1) (pa_cons (pe_gc (v := .ref A.Ref) (by rfl) ⟨_, L.c_Ref.g, rfl⟩) pa_nil))) (pe_one (pe_cmpR op_eq (pe_fld (pv 0) rfl) (pe_fld (pv 1) rfl) (nomark _)))))))
        pss_nil)
      (pss_one (ps_ret (pe_cmpR (op_eqM L (hr.mono (by omega))) (pv 0) (pv 1) (nomark _)))))), ?_⟩
    refine ⟨_, rfl, v1, .ty "bool", _, _, _, rfl, .ty _, has_ty L h1, kit_bool L d1, _, rfl, ite_or (fun e1 => ?_) fun e1 => ?_⟩
    · refine ⟨_, rfl, v1, .ty "bool", _, _, _, rfl, .ty _, has_ty L h1, kit_bool L d1, _, rfl, ifT e1 ⟨_, rfl, v2, .ty "bool", _, _, _, rfl, .ty _, has_ty L h2, kit_bool L d2, _, rfl, ite_or (fun e2 => ?_) fun e2 => ?_⟩⟩
      · exact ⟨_, rfl, _, rfl, d1, d2, h1, h2, e1.trans e2.symm, q⟩
      · exact qf fun z => by rw [z, e2] at e1; cases e1
    refine ⟨_, rfl, v2, .ty "bool", _, _, _, rfl, .ty _, has_ty L h2, kit_bool L d2, _, rfl, ite_or (fun e2 => ?_) fun e2 => ?_⟩
    · refine ⟨_, rfl, v1, .ty "bool", _, _, _, rfl, .ty _, has_ty L h1, kit_bool L d1, _, rfl, ifF e1 ?_⟩
      exact qf fun z => by rw [z, e2] at e1; cases e1
    refine ⟨_, rfl, v1, .ref A.Ref, _, .ref A.Ref, _, rfl, .own _, has_ty L h1, kit_R L d1, _, rfl, ite_or (fun r1 => ?_) fun r1 => ?_⟩
    · refine ⟨_, rfl, v1, .ref A.Ref, _, .ref A.Ref, _, rfl, .own _, has_ty L h1, kit_R L d1, _, rfl, ifT r1 ⟨_, rfl, v2, .ref A.Ref, _, .ref A.Ref, _, rfl, .own _, has_ty L h2, kit_R L d2, _, rfl, ite_or (fun r2 => ?_) fun r2 => ?_⟩⟩
      · cases d1 with
        | obj n =>
          cases d2 with
          | obj k =>
            obtain ⟨b1, dx, rfl, g1⟩ := h1
            obtain ⟨b2, dy, rfl, g2⟩ := h2
            refine ⟨_, rfl, b1, A.Ref, dx, _, _, rfl, g1, L.c_Ref.cl, L.n_Ref_number, lk_hit, _, rfl, b2, A.Ref, dy, _, _, rfl, g2, L.c_Ref.cl, L.n_Ref_number, lk_hit, rfl, ?_⟩
            rw [show decide (V.int (n : Nat) = V.int (k : Nat)) = decide (Dv.obj n = Dv.obj k) by simp; omega]
            exact q
          | _ => cases r2
        | _ => cases r1
      · exact qf fun z => by rw [z, r2] at r1; cases r1
    refine ⟨_, rfl, v2, .ref A.Ref, _, .ref A.Ref, _, rfl, .own _, has_ty L h2, kit_R L d2, _, rfl, ite_or (fun r2 => ?_) fun r2 => ?_⟩
    · refine ⟨_, rfl, v1, .ref A.Ref, _, .ref A.Ref, _, rfl, .own _, has_ty L h1, kit_R L d1, _, rfl, ifF r1 ?_⟩
      exact qf fun z => by rw [z, r2] at r1; cases r1
    exact ⟨_, rfl, _, rfl, d1, d2, h1, h2, e1.trans e2.symm, q⟩
def spRws (K : PySem.W.Frag) (A : Ads) : Sp := fun vs H Q _ => ∃ (l1 l2 : Addr) (us ws : List V) (ds es : List Dv), vs = [.ref l1, .ref l2] ∧ H l1 = some (.lst us) ∧ SqL K H l2 ws ∧ Hs A H us ds ∧ Hs A H ws es ∧ es.length ≤ 2000 ∧ Q (.bl (decide (ds = es))) H
theorem ok_law_rows (L : Lib P K mg A) : FnOk P w K mg base CX0 3 L.law_rows.f L.law_rows.fd ["told", "due"] (spRws K A) := by
  have G_law_same : FnOk P w K mg base CX0 2 L.law_same.f L.law_same.fd ["x", "y"] (spS2 A) := ok_law_same L
  refine L.law_rows.F.ok sc_law_rows (fun vs H Q E h => ?_) (fun cdv A' outer s H vs Q E hr h => ?_)
  · obtain ⟨l1, l2, us, ws, ds, es, rfl, _⟩ := h
    rfl
  · obtain ⟨l1, l2, us, ws, ds, es, rfl, h1, h2, h3, h4, hn, q⟩ := h
    have e3 := h3.len
    have e4 := h4.len
    refine ⟨_, (pss_cons (ps_if (PW.pt (pw_or (pt_not (pt_val (pe_callB call_isi (by rfl) L.z_isinstance (by decide +kernel) (pa_cons (pv 0) (pa_cons (pe_bltn (v := .ty "list") (by rfl) L.z_list (by decide +kernel) rfl) pa_nil))))) (pw_or1 (pt_cmpR op_ne (pe_callB call_len_seq (by rfl) L.z_len PySem.boot_len (pa_cons (pv 0) pa_nil)) (pe_callB call_len_seq (by rfl) L.z_len PySem.boot_len (pa_cons (pv 1) pa_nil)) (nomark _)))))
        (pss_one (ps_ret pe_bl))
        pss_nil)
      (pss_cons (ps_for PassesOwn.never rfl (pi_range1 (by rfl) L.z_range (pa_cons (pe_callB call_len_seq (by rfl) L.z_len PySem.boot_len (pa_cons (pv 1) pa_nil)) pa_nil)) (pg_name (i := 2) sc_law_rows.nd rfl (.inl rfl))
        (pss_one (ps_if (pt_not (pt_val (pe_call G_law_same (hr.mono (by omega)) (by rfl) L.law_same.g L.law_same.F.kp L.law_same.b .nil pass0 (pa_cons (pe_ix ix_list (pv 0) (pv 2) (fun _ _ => rfl)) (pa_cons (pe_ix ix_list (pv 1) (pv 2) (fun _ _ => rfl)) pa_nil)))))
        (pss_one (ps_ret pe_bl))
        pss_nil)))
      (pss_one (ps_ret pe_bl)))), ?_⟩
    refine ⟨_, rfl, _, .ty "list", _, .type "list", _, rfl, .ty _, .base (.lst h1), kit_list_list, _, rfl, iteF ?_⟩
    refine ⟨_, rfl, l1, us, rfl, .inl (SqL.of h1), _, rfl, l2, ws, rfl, .inl h2, rfl, _, rfl, ite_or (fun e => ?_) fun e => ?_⟩
    · have : ¬ ds = es := fun z => by
        rw [e3, e4, z] at e
        simp at e
      rw [decide_eq_false this] at q
      exact q
    have hl : ds.length = es.length := by
      have e := e
      rw [e3, e4] at e
      simp at e
      omega
    refine ⟨_, rfl, l2, ws, rfl, .inl h2, _, rfl, by omega, by omega, for_range (n := ws.length) (fun i σ H' => ∃ yk : Option V, σ = [some (.ref l1), some (.ref l2), yk] ∧ H' = H ∧ ∀ j, j < i → ds[j]? = es[j]?) ⟨none, rfl, rfl, fun j h => absurd h (by omega)⟩ ?_ ?_⟩
    · rintro i σ H' hi ⟨yk, rfl, rfl, hj⟩
      rw [Int.zero_add]
      obtain ⟨d, hd⟩ : ∃ d, ds[i]? = some d := ⟨_, List.getElem?_eq_getElem (by omega)⟩
      obtain ⟨e', he⟩ : ∃ d, es[i]? = some d := ⟨_, List.getElem?_eq_getElem (by omega)⟩
      obtain ⟨u, hu, hud⟩ := h3.at hd
      obtain ⟨z, hz, hzd⟩ := h4.at he
      refine ⟨_, rfl, _, rfl, l1, _, _, _, rfl, rfl, SqL.of h1, atI_nat hu, _, rfl, _, rfl, l2, _, _, _, rfl, rfl, h2, atI_nat hz, u, z, d, e', rfl, hud, hzd, _, rfl, ?_⟩
      by_cases hde : d = e'
      · rw [decide_eq_true hde]
        refine iteF ⟨_, rfl, rfl, fun j hj' => ?_⟩
        by_cases hji : j < i
        · exact hj j hji
        · obtain rfl : j = i := by omega
          rw [hd, he, hde]
      · rw [decide_eq_false hde]
        have : ¬ ds = es := fun x => by
          rw [x, he] at hd
          cases hd
          exact hde rfl
        rw [decide_eq_false this] at q
        exact iteT q
    · rintro σ H' ⟨yk, rfl, rfl, hj⟩
      have : ds = es := by
        apply List.ext_getElem?
        intro j
        by_cases hji : j < ws.length
        · exact hj j hji
        · rw [List.getElem?_eq_none (by omega), List.getElem?_eq_none (by omega)]
      rw [decide_eq_true this] at q
      exact q
/-! ### what is told -/
inductive Tl where
  | told (d : Dv)
  | err (k m : Str)
def TlAt (K : PySem.W.Frag) (A : Ads) (H : Hp) (t : Addr) : Tl → Prop
  | .told d => ∃ v, SqT K H t [.str "told", v] ∧ Has A H v d
  | .err k m => SqT K H t [.str k, .str m] ∧ k ≠ "told" ∧ PyData.strOk k = true ∧ PyData.strOk m = true
theorem TlAt.same {H H' : Hp} (s : Same H H') {t : Addr} : ∀ {r : Tl}, TlAt K A H t r → TlAt K A H' t r
  | .told _, ⟨v, h1, h2⟩ => ⟨v, sqt_same s h1, h2.sv (Same.sv s)⟩
  | .err _ _, ⟨h1, h2⟩ => ⟨sqt_same s h1, h2⟩
def spLEq (K : PySem.W.Frag) (A : Ads) : Sp := fun vs H Q _ => ∃ (t u : Addr) (r : Tl), vs = [.ref t, .ref u] ∧ TlAt K A H t r ∧ TlAt K A H u r ∧ Q (.bl true) H
theorem ok_law_equal (L : Lib P K mg A) : FnOk P w K mg base CX0 3 L.law_equal.f L.law_equal.fd ["told", "due"] (spLEq K A) := by
  have G_law_same : FnOk P w K mg base CX0 2 L.law_same.f L.law_same.fd ["x", "y"] (spS2 A) := ok_law_same L
  refine L.law_equal.F.ok sc_law_equal (fun vs H Q E h => ?_) (fun cdv A' outer s H vs Q E hr h => ?_)
  · obtain ⟨t, u, r, rfl, _⟩ := h
    rfl
  · obtain ⟨t, u, r, rfl, h1, h2, q⟩ := h
    refine ⟨_, (pss_cons (ps_if (PW.pt (pw_or (pt_cmpR op_ne (pe_ix ix_tup (pv 0) pe_int (fun _ _ => rfl)) (pe_ix ix_tup (pv 1) pe_int (fun _ _ => rfl)) (nomark _)) (pw_or1 (pt_cmpR op_ne (pe_callB call_len_seq (by rfl) L.z_len PySem.boot_len (pa_cons (pv 0) pa_nil)) (pe_callB call_len_seq (by rfl) L.z_len PySem.boot_len (pa_cons (pv 1) pa_nil)) (nomark _)))))
        (pss_one (ps_ret pe_bl))
        pss_nil)
      (pss_cons (ps_if (pt_cmpR op_ne (pe_ix ix_tup (pv 0) pe_int (fun _ _ => rfl)) pe_str (nomark _))
        (pss_one (ps_ret (pe_cmpR (op_eqD (units64 hr)) (pv 0) (pv 1) (nomark _))))
        pss_nil)
      (pss_one (ps_ret (pe_call G_law_same (hr.mono (by omega)) (by rfl) L.law_same.g L.law_same.F.kp L.law_same.b .nil pass0 (pa_cons (pe_ix ix_tup (pv 0) pe_int (fun _ _ => rfl)) (pa_cons (pe_ix ix_tup (pv 1) pe_int (fun _ _ => rfl)) pa_nil))))))), ?_⟩
    cases r with
    | told d =>
      obtain ⟨v1, s1, e1⟩ := h1
      obtain ⟨v2, s2, e2⟩ := h2
      refine ⟨_, rfl, t, _, _, _, rfl, rfl, s1, atI_nat (j := 0) rfl, _, rfl, u, _, _, _, rfl, rfl, s2, atI_nat (j := 0) rfl, rfl, _, rfl, ifF (by simp) ?_⟩
      refine ⟨_, rfl, t, _, rfl, .inr s1, _, rfl, u, _, rfl, .inr s2, rfl, _, rfl, ifF (by simp) ?_⟩
      refine ⟨_, rfl, t, _, _, _, rfl, rfl, s1, atI_nat (j := 0) rfl, rfl, _, rfl, ifF (by simp) ?_⟩
      refine ⟨_, rfl, t, _, _, v1, rfl, rfl, s1, atI_nat (j := 1) rfl, _, rfl, u, _, _, v2, rfl, rfl, s2, atI_nat (j := 1) rfl, v1, v2, d, d, rfl, e1, e2, ?_⟩
      rw [decide_eq_true rfl]
      exact q
    | err k m =>
      obtain ⟨s1, hk, k1, k2⟩ := h1
      obtain ⟨s2, _⟩ := h2
      refine ⟨_, rfl, t, _, _, _, rfl, rfl, s1, atI_nat (j := 0) rfl, _, rfl, u, _, _, _, rfl, rfl, s2, atI_nat (j := 0) rfl, rfl, _, rfl, ifF (by simp) ?_⟩
      refine ⟨_, rfl, t, _, rfl, .inr s1, _, rfl, u, _, rfl, .inr s2, rfl, _, rfl, ifF (by simp) ?_⟩
      refine ⟨_, rfl, t, _, _, _, rfl, rfl, s1, atI_nat (j := 0) rfl, rfl, _, rfl, ifT (by simp [hk]) ?_⟩
      refine ⟨_, rfl, _, rfl, _, _, ss_dpT s1, ss_dpT s2, ss_shape k1 k2, ss_shape k1 k2, ?_⟩
      rw [eqv_ss, decide_eq_true rfl, decide_eq_true rfl]
      exact q
end
end My
namespace My
open PySem L2 SX XT XS XE XD XL XZ
open C8 (pss_cut tCut cutS_slice pe_gc)
def tQ (Q : VK) : VK := fun v H' => ∀ t, H' t = none → Q (.ref t) (upd H' t (.tup [.str "told", v]))
def tE (A : Ads) (Q : VK) : XK := fun c dd H' => ∃ (d : Addr) (k m : Str) (H0 : Hp), c = .ref A.ScriptError ∧ dd = some d ∧ H0 d = none ∧ H' = upd H0 d (.xd [("message", .str m), ("kind", .str k)]) ∧ ∀ t H2, Same H0 H2 → H2 t = none → Q (.ref t) (upd H2 t (.tup [.str k, .str m]))
section
variable {P : Program} {w : World} {K : PySem.W.Frag} {mg : Str → Option Value} {base : Heap} {A : Ads}
/-- how an error is told -/
def TE (K : PySem.W.Frag) (A : Ads) (H : Hp) (Q : VK) (k m : Str) : Prop := ∀ H' t, Same H H' → TlAt K A H' t (.err k m) → Q (.ref t) H'
theorem TE.err {H H1 : Hp} {Q : VK} {k m : Str} (h : TE K A H Q k m) (s : Same H H1) (hk : k ≠ "told") (k1 : PyData.strOk k = true) (k2 : PyData.strOk m = true) : Err (tE A Q) A.ScriptError H1 k m := fun d hd =>
  ⟨d, k, m, H1, rfl, rfl, hd, rfl, fun t H2 s2 nt => h _ t ((s.trans s2).trans (same_upd nt)) ⟨SqT.of upd_same, hk, k1, k2⟩⟩
theorem TE.same {H H1 : Hp} {Q : VK} {k m : Str} (s : Same H H1) (h : TE K A H Q k m) : TE K A H1 Q k m := fun H' t s' => h H' t (s.trans s')
theorem idx_ok : ("IndexError" : Str) ≠ "told" ∧ PyData.strOk "IndexError" = true ∧ PyData.strOk "index out of range" = true := by decide +kernel
theorem siz_ok : ("SizeError" : Str) ≠ "told" ∧ PyData.strOk "SizeError" = true ∧ PyData.strOk "too large" = true := by decide +kernel
theorem knd_ok : ("KindError" : Str) ≠ "told" ∧ PyData.strOk "KindError" = true ∧ PyData.strOk "wrong argument" = true := by decide +kernel
theorem ari_ok : ("ArityError" : Str) ≠ "told" ∧ PyData.strOk "ArityError" = true ∧ ∀ n, n < 4 → ∀ m, m < 4 → PyData.strOk (arM n m) = true := by decide +kernel
theorem fld_ok : ("FieldError" : Str) ≠ "told" ∧ PyData.strOk "FieldError" = true ∧ ∀ z ∈ missN, PyData.strOk (("list" : Str) ++ (" has no field " : Str) ++ z) = true := by decide +kernel
def Rs.t (P : Program) (w : World) (K : PySem.W.Frag) (A : Ads) (a : Sa) (S : St) (n : Nat) (x : Addr) (H : Hp) (Q : VK) : Rs → Prop
  | .val d es => ∀ H' a' m' t, Ev a a' H H' → Pt P w A H' a' (S.put n es) n x m' es → TlAt K A H' t (.told d) → Q (.ref t) H'
  | .new es => ∀ H' a' t r, Ev a a' H H' → SM P w A H' a' { S with things := S.things ++ [.parts es] } → SqT K H' t [.str "told", .ref r] → Has A H' (.ref r) (.obj S.things.length) → Q (.ref t) H'
  | .err k m => (k ≠ "told" ∧ PyData.strOk k = true ∧ PyData.strOk m = true) ∧ TE K A H Q k m
def Kl.t (P : Program) (w : World) (K : PySem.W.Frag) (A : Ads) (a : Sa) (S : St) (n : Nat) (x : Addr) (row : List Dv) (H : Hp) (Q : VK) : Kl → Prop
  | .ok c => (∀ d ∈ c.args, okV S d) ∧ (c.res row).t P w K A a S n x H Q
  | .bad b m => if m = true then TE K A H Q "ArityError" (arM b.kinds.length (b.args.length + 1)) else TE K A H Q "KindError" "wrong argument"
  | .miss _ z => z ∈ missN ∧ TE K A H Q "FieldError" (("list" : Str) ++ (" has no field " : Str) ++ z)
theorem Kl.tq {a : Sa} {S : St} {n : Nat} {x : Addr} {row : List Dv} {H H1 : Hp} {Q : VK} (s1 : Same H H1) : ∀ {k : Kl}, k.t P w K A a S n x row H Q → k.q P w A a S n x row H1 (tQ Q) (tE A Q)
  | .ok c, ⟨h1, h2⟩ => by
    refine ⟨h1, ?_⟩
    revert h2
    cases c.res row with
    | val d es => exact fun h2 => (fun H' a' m' v ev p hv t nt => h2 _ a' m' t (((Ev.same s1).trans ev).trans (Ev.same (same_upd nt))) (p.same (same_upd nt)) ⟨v, SqT.of upd_same, hv.sv (Same.sv (same_upd nt))⟩ : Rs.q P w A a S n x H1 (tQ Q) (tE A Q) (.val d es))
    | new es => exact fun h2 => (fun H' r a' ev sm hr t nt => h2 _ a' t r (((Ev.same s1).trans ev).trans (Ev.same (same_upd nt))) (sm.same (same_upd nt)) (SqT.of upd_same) (hr.sv (Same.sv (same_upd nt))) : Rs.q P w A a S n x H1 (tQ Q) (tE A Q) (.new es))
    | err k m => exact fun h2 => (fun H' s => h2.2.err (s1.trans s) h2.1.1 h2.1.2.1 h2.1.2.2 : Rs.q P w A a S n x H1 (tQ Q) (tE A Q) (.err k m))
  | .bad b true, h => fun H' s => by
    rw [if_pos rfl]
    have h : TE K A H Q "ArityError" (arM b.kinds.length (b.args.length + 1)) := h
    obtain ⟨l1, l2⟩ := b.klen
    exact h.err (s1.trans s) ari_ok.1 ari_ok.2.1 (ari_ok.2.2 _ (by omega) _ (by omega))
  | .bad b false, h => fun H' s => by
    rw [if_neg nofun]
    have h : TE K A H Q "KindError" "wrong argument" := h
    exact h.err (s1.trans s) knd_ok.1 knd_ok.2.1 knd_ok.2.2
  | .miss _ z, h => ⟨h.1, fun H' s => h.2.err (s1.trans s) fld_ok.1 fld_ok.2.1 (fld_ok.2.2 z h.1)⟩
def spLCall (P : Program) (w : World) (K : PySem.W.Frag) (A : Ads) : Sp := fun vs H Q _ => ∃ (a : Sa) (S : St) (x m : Addr) (row : List Dv) (l : Addr) (us : List V) (k : Kl), vs = [.ref a.s, .str k.nm, .ref l] ∧ Pt P w A H a S 1 x m row ∧ SqL K H l us ∧ Hs A H us k.args ∧ row.length ≤ 1000 ∧ S.things.length < 100000 ∧ k.t P w K A a S 1 x row H Q
theorem ok_law_call (L : Lib P K mg A) (D : Fd w L) : FnOk P w K mg base CX0 9 L.law_call.f L.law_call.fd ["store", "name", "values"] (spLCall P w K A) := by
  have G_call_method : FnOk P w K mg base (L2.CX P w) 8 L.call_method.f L.call_method.fd ["store", "x", "name", "values"] (spCM P w K A) := ok_call_method L D
  have G_Ref_init : FnOk P w K mg base CX0 1 L.Ref_init.f L.Ref_init.fd ["self", "number"] (spI1 A.Ref "number") := ok_Ref_init L
  refine L.law_call.F.ok sc_law_call (fun vs H Q E h => ?_) (fun cdv A' outer s H vs Q E hr h => ?_)
  · obtain ⟨a, S, x, m, row, l, us, k, rfl, _⟩ := h
    rfl
  · obtain ⟨a, S, x, m, row, l, us, k, rfl, hp, hl, hu, hz, hb, q⟩ := h
    refine ⟨_, (pss_one (ps_try_as (i := 3) (Wout := fun _ _ _ _ => False) rfl rfl sc_law_call.nd rfl rfl ⟨rfl, by decide, .inl L.x_ScriptError.g⟩ takes0 (fun W pn xe tk _ => pss_one (ps_ret (by exact (pe_tup (pa_cons pe_str (pa_cons (by exact (pe_callS G_call_method (hr.mono (by omega)) (by rfl) L.call_method.g L.call_method.F.kp L.call_method.b (fun σ => passAt tk σ) (by exact (pa_cons (pv 0) (pa_cons (pe_make L.Ref_init.m G_Ref_init (hr.mono (by omega)) (by rfl) L.c_Ref.g L.Ref_init.b .nil pass0 (pa_cons pe_int pa_nil)) (pa_cons (pv 1) (pa_cons (pv 2) pa_nil))))))) pa_nil)))))) (fun a oe cls d pn hz hf => pss_one (ps_ret (pe_tup (pa_cons (pe_xf L.x_ScriptError.T.xf L.x_ScriptError.T.n1 hz hf (pv 3)) (pa_cons (pe_xf L.x_ScriptError.T.xf L.x_ScriptError.T.n2 hz hf (pv 3)) pa_nil))))))), ?_⟩
    refine ⟨_, rfl, ?_⟩
    intro y dy ny ndy nyd
    refine ⟨y, dy, _, rfl, upd_same, fun H1 k1 hR => ⟨rfl, ?_⟩⟩
    have s1 : Same H H1 := Same.made ny ndy k1
    refine ⟨_, rfl, _, rfl, a, S, 1, x, m, row, .ref y, l, us, k, rfl, hp.same s1, ⟨y, dy, rfl, hR⟩, s1.seq hl, hu.imp fun _ _ h => h.sv (Same.sv s1), hz, hb, ?_⟩
    refine Kl.mono (fun v H' h => ⟨by show 2 ≤ sizeLine; decide, fun t ht => h t ht⟩) (fun c dd H' h => ?_) (Kl.tq s1 q)
    obtain ⟨d, kk, mm, H0, rfl, rfl, hd, rfl, h⟩ := h
    have xd : upd H0 d (.xd [("message", .str mm), ("kind", .str kk)]) d = some (.xd [("message", .str mm), ("kind", .str kk)]) := upd_same
    refine ⟨true, L.x_ScriptError.T.te, fun _ a0 _ => ?_, fun q => Bool.noConfusion q⟩
    exact ⟨_, rfl, rfl, rfl, d, _, _, rfl, xd, (by rw [lk_skip (by decide +kernel)]; exact lk_hit), _, rfl, rfl, rfl, d, _, _, rfl, xd, lk_hit, (by show 2 ≤ sizeLine; decide), fun t ht => h t _ (same_upd hd) ht⟩
def spLItem (P : Program) (w : World) (K : PySem.W.Frag) (A : Ads) : Sp := fun vs H Q _ => ∃ (a : Sa) (S : St) (x m : Addr) (row : List Dv) (g : Bool) (i : Int) (v : V) (d : Dv), vs = [.ref a.s, .str (if g = true then "get" else "set"), .int i, v] ∧ Pt P w A H a S 1 x m row ∧ Has A H v d ∧
  (¬ (0 ≤ i ∧ i < row.length) → TE K A H Q "IndexError" "index out of range") ∧
  (g = true → ∀ e H' t, 0 ≤ i → row[i.toNat]? = some e → Same H H' → TlAt K A H' t (.told e) → Q (.ref t) H') ∧
  (g = false → 0 ≤ i ∧ i < row.length → ∀ H' t, Ev a a H H' → Pt P w A H' a (S.put 1 (row.set i.toNat d)) 1 x m (row.set i.toNat d) → TlAt K A H' t (.told d) → Q (.ref t) H')
theorem ok_law_item (L : Lib P K mg A) : FnOk P w K mg base CX0 6 L.law_item.f L.law_item.fd ["store", "deed", "i", "value"] (spLItem P w K A) := by
  have G_get_item : FnOk P w K mg base (L2.CX P w) 5 L.get_item.f L.get_item.fd ["store", "x", "i"] (spGI P w A) := ok_get_item L
  have G_set_item : FnOk P w K mg base (L2.CX P w) 5 L.set_item.f L.set_item.fd ["store", "x", "i", "value"] (spStI P w A) := ok_set_item L
  have G_Ref_init : FnOk P w K mg base CX0 1 L.Ref_init.f L.Ref_init.fd ["self", "number"] (spI1 A.Ref "number") := ok_Ref_init L
  refine L.law_item.F.ok sc_law_item (fun vs H Q E h => ?_) (fun cdv A' outer s H vs Q E hr h => ?_)
  · obtain ⟨a, S, x, m, row, g, i, v, d, rfl, _⟩ := h
    rfl
  · obtain ⟨a, S, x, m, row, g, i, v, d, rfl, hp, hv, q1, q2, q3⟩ := h
    refine ⟨_, (pss_one (ps_try_as (i := 4) (Wout := fun _ _ _ _ => False) rfl rfl sc_law_item.nd rfl rfl ⟨rfl, by decide, .inl L.x_ScriptError.g⟩ takes0 (fun W pn xe tk _ => pss_cons (ps_if (pt_cmpR op_eq (pv 1) pe_str (nomark _)) (pss_one (ps_ret (by exact (pe_tup (pa_cons pe_str (pa_cons (by exact (pe_callS G_get_item (hr.mono (by omega)) (by rfl) L.get_item.g L.get_item.F.kp L.get_item.b (fun σ => passAt tk σ) (by exact (pa_cons (pv 0) (pa_cons (pe_make L.Ref_init.m G_Ref_init (hr.mono (by omega)) (by rfl) L.c_Ref.g L.Ref_init.b .nil pass0 (pa_cons pe_int pa_nil)) (pa_cons (pv 2) pa_nil)))))) pa_nil)))))) pss_nil) (pss_one (ps_ret (by exact (pe_tup (pa_cons pe_str (pa_cons (by exact (pe_callS G_set_item (hr.mono (by omega)) (by rfl) L.set_item.g L.set_item.F.kp L.set_item.b (fun σ => passAt tk σ) (by exact (pa_cons (pv 0) (pa_cons (pe_make L.Ref_init.m G_Ref_init (hr.mono (by omega)) (by rfl) L.c_Ref.g L.Ref_init.b .nil pass0 (pa_cons pe_int pa_nil)) (pa_cons (pv 2) (pa_cons (pv 3) pa_nil))))))) pa_nil))))))) (fun a oe cls d pn hz hf => pss_one (ps_ret (pe_tup (pa_cons (pe_xf L.x_ScriptError.T.xf L.x_ScriptError.T.n1 hz hf (pv 4)) (pa_cons (pe_xf L.x_ScriptError.T.xf L.x_ScriptError.T.n2 hz hf (pv 4)) pa_nil))))))), ?_⟩
    have er : ∀ {H1 : Hp}, Same H H1 → ¬ (0 ≤ i ∧ i < row.length) → Err (tE A Q) A.ScriptError H1 "IndexError" "index out of range" := fun s n => (q1 n).err s idx_ok.1 idx_ok.2.1 idx_ok.2.2
    cases g with
    | true =>
      refine ⟨_, rfl, rfl, _, rfl, ifT (by decide +kernel) ?_⟩
      refine ⟨_, rfl, ?_⟩
      intro y dy ny ndy nyd
      refine ⟨y, dy, _, rfl, upd_same, fun H1 k1 hR => ⟨rfl, ?_⟩⟩
      have s1 : Same H H1 := Same.made ny ndy k1
      refine ⟨_, rfl, a, S, 1, x, m, row, .ref y, i, rfl, hp.same s1, ⟨y, dy, rfl, hR⟩, fun H2 s2 => ⟨fun e u h0 he hu => ?_, fun n => Err.mono (fun c dd H' h => by
        obtain ⟨d0, kk, mm, H0, rfl, rfl, hd, rfl, h⟩ := h
        have xd : upd H0 d0 (.xd [("message", .str mm), ("kind", .str kk)]) d0 = some (.xd [("message", .str mm), ("kind", .str kk)]) := upd_same
        refine ⟨true, L.x_ScriptError.T.te, fun _ a0 _ => ?_, fun q => Bool.noConfusion q⟩
        exact ⟨_, rfl, rfl, rfl, d0, _, _, rfl, xd, (by rw [lk_skip (by decide +kernel)]; exact lk_hit), _, rfl, rfl, rfl, d0, _, _, rfl, xd, lk_hit, (by show 2 ≤ sizeLine; decide), fun t ht => h t _ (same_upd hd) ht⟩) (er (s1.trans s2) n)⟩⟩
      exact ⟨by show 2 ≤ sizeLine; decide, fun t ht => q2 rfl e _ t h0 he ((s1.trans s2).trans (same_upd ht)) ⟨u, SqT.of upd_same, hu.sv (Same.sv (same_upd ht))⟩⟩
    | false =>
      refine ⟨_, rfl, rfl, _, rfl, ifF (by decide +kernel) ?_⟩
      refine ⟨_, rfl, ?_⟩
      intro y dy ny ndy nyd
      refine ⟨y, dy, _, rfl, upd_same, fun H1 k1 hR => ⟨rfl, ?_⟩⟩
      have s1 : Same H H1 := Same.made ny ndy k1
      refine ⟨_, rfl, _, rfl, a, S, 1, x, m, row, .ref y, v, i, d, rfl, hp.same s1, ⟨y, dy, rfl, hR⟩, hv.sv (Same.sv s1), fun hi H2 u ev pt hu => ?_, fun n => Err.mono (fun c dd H' h => by
        obtain ⟨d0, kk, mm, H0, rfl, rfl, hd, rfl, h⟩ := h
        have xd : upd H0 d0 (.xd [("message", .str mm), ("kind", .str kk)]) d0 = some (.xd [("message", .str mm), ("kind", .str kk)]) := upd_same
        refine ⟨true, L.x_ScriptError.T.te, fun _ a0 _ => ?_, fun q => Bool.noConfusion q⟩
        exact ⟨_, rfl, rfl, rfl, d0, _, _, rfl, xd, (by rw [lk_skip (by decide +kernel)]; exact lk_hit), _, rfl, rfl, rfl, d0, _, _, rfl, xd, lk_hit, (by show 2 ≤ sizeLine; decide), fun t ht => h t _ (same_upd hd) ht⟩) (er s1 n)⟩
      exact ⟨by show 2 ≤ sizeLine; decide, fun t ht => q3 rfl hi _ t (((Ev.same s1).trans ev).trans (Ev.same (same_upd ht))) (pt.same (same_upd ht)) ⟨u, SqT.of upd_same, hu.sv (Same.sv (same_upd ht))⟩⟩
end
end My
namespace My
open PySem L2 SX XT XS XE XD XL XZ
open C8 (pss_cut tCut cutS_slice pe_gc)
/-- the places of d -/
def plc (d : Dv) : List Dv → Nat → List Nat
  | [], _ => []
  | e :: ds, k => if e = d then k :: plc d ds (k + 1) else plc d ds (k + 1)
theorem plc_snoc {d e : Dv} : ∀ {ds : List Dv} {k : Nat}, plc d (ds ++ [e]) k = plc d ds k ++ if e = d then [k + ds.length] else []
  | [], k => by
    show (if e = d then k :: [] else []) = [] ++ _
    rw [List.nil_append]
    rfl
  | x :: ds, k => by
    show (if x = d then k :: plc d (ds ++ [e]) (k + 1) else plc d (ds ++ [e]) (k + 1)) = (if x = d then k :: plc d ds (k + 1) else plc d ds (k + 1)) ++ _
    rw [plc_snoc, List.length_cons, show k + 1 + ds.length = k + (ds.length + 1) by omega]
    by_cases h : x = d
    · rw [if_pos h, if_pos h, List.cons_append]
    · rw [if_neg h, if_neg h]
theorem plc_len {d : Dv} : ∀ {ds : List Dv} {k : Nat}, (plc d ds k).length = (ds.filter fun e => decide (e = d)).length
  | [], _ => rfl
  | x :: ds, k => by
    show (if x = d then k :: plc d ds (k + 1) else plc d ds (k + 1)).length = _
    by_cases h : x = d
    · rw [if_pos h, List.filter_cons, if_pos (decide_eq_true h), List.length_cons, List.length_cons, plc_len]
    · rw [if_neg h, List.filter_cons, if_neg (by simpa using h), plc_len]
theorem plc_head {d : Dv} : ∀ {ds : List Dv} {k : Nat}, (plc d ds k)[0]? = fst d ds k
  | [], _ => rfl
  | x :: ds, k => by
    show (if x = d then k :: plc d ds (k + 1) else plc d ds (k + 1))[0]? = if x = d then some k else fst d ds (k + 1)
    by_cases h : x = d
    · rw [if_pos h, if_pos h]
      rfl
    · rw [if_neg h, if_neg h, plc_head]
section
variable {P : Program} {w : World} {K : PySem.W.Frag} {mg : Str → Option Value} {base : Heap} {A : Ads}
def valD : List Dv := [.non, .bl true, .bl false, .int 0, .int 1, .int 2, .str "", .str "a", .str "1", .obj 0, .obj 1, .int (-5)]
def spVal (K : PySem.W.Frag) (A : Ads) : Sp := fun vs H Q _ => ∃ (a p : Addr) (ns : List Int), vs = [.ref p] ∧ StL K H a p ns ∧ ∀ H' v d, Keep p H H' → StL K H' a p ns → d ∈ valD → Has A H' v d → Q v H'
theorem ok_law_value (L : Lib P K mg A) : FnOk P w K mg base CX0 4 L.law_value.f L.law_value.fd ["state"] (spVal K A) := by
  have G_law_pick : FnOk P w K mg base CX0 3 L.law_pick.f L.law_pick.fd ["state", "row"] (spPick K) := ok_law_pick L
  have G_Ref_init : FnOk P w K mg base CX0 1 L.Ref_init.f L.Ref_init.fd ["self", "number"] (spI1 A.Ref "number") := ok_Ref_init L
  refine L.law_value.F.ok sc_law_value (fun vs H Q E h => ?_) (fun cdv A' outer s H vs Q E hr h => ?_)
  · obtain ⟨a, p, ns, rfl, _⟩ := h
    rfl
  · obtain ⟨a, p, ns, rfl, st, q⟩ := h
    refine ⟨_, (pss_one (ps_ret (pe_call G_law_pick (hr.mono (by omega)) (by rfl) L.law_pick.g L.law_pick.F.kp L.law_pick.b .nil pass0 (pa_cons (pv 0) (pa_cons (pe_tup (pa_cons pe_non (pa_cons pe_bl (pa_cons pe_bl (pa_cons pe_int (pa_cons pe_int (pa_cons pe_int (pa_cons pe_str (pa_cons pe_str (pa_cons pe_str (pa_cons (pe_make L.Ref_init.m G_Ref_init (hr.mono (by omega)) (by rfl) L.c_Ref.g L.Ref_init.b .nil pass0 (pa_cons pe_int pa_nil)) (pa_cons (pe_make L.Ref_init.m G_Ref_init (hr.mono (by omega)) (by rfl) L.c_Ref.g L.Ref_init.b .nil pass0 (pa_cons pe_int pa_nil)) (pa_cons (pe_un un_neg pe_int) pa_nil))))))))))))) pa_nil))))), ?_⟩
    refine ⟨_, rfl, ?_⟩
    intro y dy ny ndy nyd
    refine ⟨y, dy, _, rfl, upd_same, fun H1 k1 hR => ⟨rfl, ?_⟩⟩
    have s1 : Same H H1 := Same.made ny ndy k1
    intro z dz nz ndz nzd
    refine ⟨z, dz, _, rfl, upd_same, fun H2 k2 hR2 => ⟨rfl, ?_⟩⟩
    have s2 : Same H1 H2 := Same.made nz ndz k2
    refine ⟨_, rfl, (by show 12 ≤ sizeLine; decide), fun T nT => ?_⟩
    have s12 : Same H H2 := s1.trans s2
    have s3 : Same H (upd H2 T (.tup [.non, .bl true, .bl false, .int 0, .int 1, .int 2, .str "", .str "a", .str "1", .ref y, .ref z, .int (-5)])) := s12.trans (same_upd nT)
    have hy3 : Has A (upd H2 T (.tup [.non, .bl true, .bl false, .int 0, .int 1, .int 2, .str "", .str "a", .str "1", .ref y, .ref z, .int (-5)])) (.ref y) (.obj 0) := ⟨y, dy, rfl, (s2.trans (same_upd nT)) _ _ hR⟩
    have hz3 : Has A (upd H2 T (.tup [.non, .bl true, .bl false, .int 0, .int 1, .int 2, .str "", .str "a", .str "1", .ref y, .ref z, .int (-5)])) (.ref z) (.obj 1) := ⟨z, dz, rfl, (same_upd nT) _ _ hR2⟩
    refine ⟨a, p, T, ns, _, rfl, st.same s3, SqT.of upd_same, by show 0 < 12; decide, by show 12 ≤ 100; decide, fun H' v hv k' st' => ?_⟩
    have kk : Keep p H H' := (My.Same.keep s3).trans k'
    obtain ⟨xp, kp, hp, _⟩ := st.same s3
    have sv := Keep.sv k' hp
    simp only [List.mem_cons, List.not_mem_nil, or_false] at hv
    rcases hv with rfl | rfl | rfl | rfl | rfl | rfl | rfl | rfl | rfl | rfl | rfl | rfl
    · exact q H' _ .non kk st' (by decide +kernel) rfl
    · exact q H' _ (.bl true) kk st' (by decide +kernel) rfl
    · exact q H' _ (.bl false) kk st' (by decide +kernel) rfl
    · exact q H' _ (.int 0) kk st' (by decide +kernel) rfl
    · exact q H' _ (.int 1) kk st' (by decide +kernel) rfl
    · exact q H' _ (.int 2) kk st' (by decide +kernel) rfl
    · exact q H' _ (.str "") kk st' (by decide +kernel) rfl
    · exact q H' _ (.str "a") kk st' (by decide +kernel) rfl
    · exact q H' _ (.str "1") kk st' (by decide +kernel) rfl
    · exact q H' _ (.obj 0) kk st' (by decide +kernel) (hy3.sv sv)
    · exact q H' _ (.obj 1) kk st' (by decide +kernel) (hz3.sv sv)
    · exact q H' _ (.int (-5)) kk st' (by decide +kernel) rfl
def spPlc (K : PySem.W.Frag) (A : Ads) : Sp := fun vs H Q _ => ∃ (r : Addr) (us : List V) (ds : List Dv) (v : V) (d : Dv), vs = [.ref r, v] ∧ SqL K H r us ∧ Hs A H us ds ∧ Has A H v d ∧ ds.length ≤ 2000 ∧ ∀ H' D, Same H H' → H' D = some (.lst ((plc d ds 0).map fun k => .int ((k : Nat) : Int))) → Q (.ref D) H'
theorem ok_law_places (L : Lib P K mg A) : FnOk P w K mg base CX0 3 L.law_places.f L.law_places.fd ["row", "value"] (spPlc K A) := by
  have G_law_same : FnOk P w K mg base CX0 2 L.law_same.f L.law_same.fd ["x", "y"] (spS2 A) := ok_law_same L
  refine L.law_places.F.ok sc_law_places (fun vs H Q E h => ?_) (fun cdv A' outer s H vs Q E hr h => ?_)
  · obtain ⟨r, us, ds, v, d, rfl, _⟩ := h
    rfl
  · obtain ⟨r, us, ds, v, d, rfl, hr1, hu, hv, hz, q⟩ := h
    have hl := hu.len
    refine ⟨_, (pss_one (ps_ret (pe_lc (own := [("k", 2)]) (g := gName 2) (by rfl) sc_law_places.nd (pi_range1 (by rfl) L.z_range (pa_cons (pe_callB call_len_seq (by rfl) L.z_len PySem.boot_len (pa_cons (pv 0) pa_nil)) pa_nil)) (blkOk_by (own := [("k", 2)]) (N := ["row", "value", "k"]) (sc := defScope (top 132)) (by decide +kernel)) (fun _ _ _ _ _ => (pg_name (i := 2) sc_law_places.nd rfl (.inl rfl))) (fun _ _ _ _ _ => pts_one (pt_val (pe_call G_law_same (hr.mono (by omega)) (by rfl) L.law_same.g L.law_same.F.kp L.law_same.b .nil pass0 (pa_cons (pe_ix (r := rIxL K) ix_list (pv 0) (pv 2) (fun _ _ => rfl)) (pa_cons (pv 1) pa_nil))))) (fun _ _ _ _ _ => (pv 2))))), ?_⟩
    refine ⟨_, rfl, r, us, rfl, .inl hr1, _, rfl, by omega, by omega, fun D nD => ?_⟩
    refine lc_it (walk_range (lo := 0) (n := us.length)) (fun i H' => Same H H' ∧ H' D = some (.lst ((plc d (ds.take i) 0).map fun k => .int ((k : Nat) : Int)))) ⟨same_upd nD, upd_same⟩ (fun _ _ _ _ => trivial) ?_ ?_
    · rintro i vx H1 H2 hi ⟨s1, e1⟩ hy
      obtain ⟨rfl, rfl⟩ := hy
      rw [show (fun i : Nat => V.int (0 + (i : Int))) i = V.int (i : Int) from congrArg V.int (Int.zero_add _)]
      obtain ⟨e, he⟩ : ∃ e, ds[i]? = some e := ⟨_, List.getElem?_eq_getElem (by omega)⟩
      obtain ⟨u, hui, hud⟩ := hu.at he
      have fl : (plc d (ds.take i) 0).length ≤ i := by
        rw [plc_len]
        exact Nat.le_trans (List.length_filter_le _ _) (by rw [List.length_take]; omega)
      have sn : plc d (ds.take (i + 1)) 0 = plc d (ds.take i) 0 ++ if e = d then [i] else [] := by
        rw [List.take_add_one, he, show (some e).toList = [e] from rfl, plc_snoc, List.length_take, Nat.zero_add, Nat.min_eq_left (by omega)]
      refine ⟨rfl, _, rfl, _, rfl, r, us, _, u, rfl, rfl, s1.seq hr1, atI_nat hui, _, rfl, u, v, e, d, rfl, hud.sv (Same.sv s1), hv.sv (Same.sv s1), _, rfl, ?_⟩
      rw [sn]
      by_cases c : e = d
      · rw [decide_eq_true c]
        refine iteT ⟨_, rfl, _, e1, Nat.lt_of_le_of_lt (m := 2000) (by rw [List.length_map]; omega) (by decide), fun b o eb => ?_, ?_⟩
        · rw [upd_ne (ne_of_none eb nD)]
          exact s1 _ _ eb
        · rw [upd_same, if_pos c, List.map_append]
          rfl
      · rw [decide_eq_false c]
        refine iteF ⟨s1, ?_⟩
        rw [if_neg c, List.append_nil]
        exact e1
    · rintro H1 ⟨s1, e1⟩
      rw [hl, List.take_length] at e1
      exact q H1 D s1 e1
/-- the value that a call tells -/
def rv (ds : List Dv) (c : Cl) : Dv := match c.res ds with
  | .val e _ => e
  | _ => .non
def fnds (d : Dv) : List Cl := [.contains d, .count d, .find d]
def spFnd (K : PySem.W.Frag) (A : Ads) : Sp := fun vs H Q _ => ∃ (r : Addr) (us : List V) (ds : List Dv) (v : V) (d : Dv) (c : Cl), vs = [.ref r, .str c.nm, v] ∧ c ∈ fnds d ∧ SqL K H r us ∧ Hs A H us ds ∧ Has A H v d ∧ ds.length ≤ 2000 ∧ ∀ H' t, Same H H' → TlAt K A H' t (.told (rv ds c)) → Q (.ref t) H'
theorem ok_law_found (L : Lib P K mg A) : FnOk P w K mg base CX0 4 L.law_found.f L.law_found.fd ["row", "name", "value"] (spFnd K A) := by
  have G_law_places : FnOk P w K mg base CX0 3 L.law_places.f L.law_places.fd ["row", "value"] (spPlc K A) := ok_law_places L
  refine L.law_found.F.ok sc_law_found (fun vs H Q E h => ?_) (fun cdv A' outer s H vs Q E hr h => ?_)
  · obtain ⟨r, us, ds, v, d, c, rfl, _⟩ := h
    rfl
  · obtain ⟨r, us, ds, v, d, c, rfl, hc, hr1, hu, hv, hz, q⟩ := h
    have hl := hu.len
    refine ⟨_, (pss_cons (ps_set (i := 3) sc_law_found.nd rfl (.inl rfl) (pe_call G_law_places (hr.mono (by omega)) (by rfl) L.law_places.g L.law_places.F.kp L.law_places.b .nil pass0 (pa_cons (pv 0) (pa_cons (pv 2) pa_nil))))
      (pss_cons (ps_if (pt_cmpR op_eq (pv 1) pe_str (nomark _))
        (pss_one (ps_ret (pe_tup (pa_cons pe_str (pa_cons (pe_cmpR op_gt (pe_callB call_len_seq (by rfl) L.z_len PySem.boot_len (pa_cons (pv 3) pa_nil)) pe_int (nomark _)) pa_nil)))))
        pss_nil)
      (pss_cons (ps_if (pt_cmpR op_eq (pv 1) pe_str (nomark _))
        (pss_one (ps_ret (pe_tup (pa_cons pe_str (pa_cons (pe_callB call_len_seq (by rfl) L.z_len PySem.boot_len (pa_cons (pv 3) pa_nil)) pa_nil)))))
        pss_nil)
      (pss_cons (ps_if (pt_cmpR op_eq (pe_callB call_len_seq (by rfl) L.z_len PySem.boot_len (pa_cons (pv 3) pa_nil)) pe_int (nomark _))
        (pss_one (ps_ret (pe_tup (pa_cons pe_str (pa_cons pe_non pa_nil)))))
        pss_nil)
      (pss_one (ps_ret (pe_tup (pa_cons pe_str (pa_cons (pe_ix ix_list (pv 3) pe_int (fun _ _ => rfl)) pa_nil))))))))), ?_⟩
    refine ⟨_, rfl, _, rfl, r, us, ds, v, d, rfl, hr1, hu, hv, hz, fun H1 D s1 eD => ?_⟩
    have fin : ∀ (e : V) (de : Dv), Has A H1 e de → de = rv ds c → ∀ t, H1 t = none → Q (.ref t) (upd H1 t (.tup [.str "told", e])) := fun e de he hde t nt =>
      q _ t (s1.trans (same_upd nt)) ⟨e, SqT.of upd_same, hde ▸ he.sv (Same.sv (same_upd nt))⟩
    have ln : (((plc d ds 0).map fun k => V.int ((k : Nat) : Int)).length) = (ds.filter fun e => decide (e = d)).length := by rw [List.length_map, plc_len]
    have ne : ∀ x y : Str, x ≠ y → decide (V.str x = V.str y) = false := fun x y h => decide_eq_false fun z => by injection z with z; exact h z
    have n1 : ("count" : Str) ≠ "contains" ∧ ("find" : Str) ≠ "contains" ∧ ("find" : Str) ≠ "count" := by decide +kernel
    have fs : (fst d ds 0).isSome = decide (0 < (ds.filter fun e => decide (e = d)).length) := by
      rw [← plc_head, ← plc_len (k := 0)]
      cases plc d ds 0 <;> simp
    simp only [fnds, List.mem_cons, List.not_mem_nil, or_false] at hc
    rcases hc with rfl | rfl | rfl
    · refine ⟨_, rfl, rfl, _, rfl, ifT (decide_eq_true rfl) ?_⟩
      refine ⟨_, rfl, D, _, rfl, .inl (SqL.of eD), _, _, rfl, rfl, (by show 2 ≤ sizeLine; decide), fin _ (.bl _) rfl ?_⟩
      show Dv.bl _ = Dv.bl _
      rw [ln, fs]
      congr 1
      rw [decide_eq_decide]
      omega
    · refine ⟨_, rfl, rfl, _, rfl, ifF (ne _ _ n1.1) ?_⟩
      refine ⟨_, rfl, rfl, _, rfl, ifT (decide_eq_true rfl) ?_⟩
      refine ⟨_, rfl, D, _, rfl, .inl (SqL.of eD), (by show 2 ≤ sizeLine; decide), fin _ (.int _) rfl ?_⟩
      show Dv.int _ = Dv.int _
      rw [ln]
    · refine ⟨_, rfl, rfl, _, rfl, ifF (ne _ _ n1.2.1) ?_⟩
      refine ⟨_, rfl, rfl, _, rfl, ifF (ne _ _ n1.2.2) ?_⟩
      refine ⟨_, rfl, D, _, rfl, .inl (SqL.of eD), rfl, _, rfl, ite_or (fun e => ?_) fun e => ?_⟩
      · refine ⟨(by show 2 ≤ sizeLine; decide), fin _ .non rfl ?_⟩
        show Dv.non = optD (fst d ds 0)
        rw [ln] at e
        have e0 : (ds.filter fun e => decide (e = d)).length = 0 := by
          have := of_decide_eq_true e
          injection this with this
          omega
        rw [e0] at fs
        cases h : fst d ds 0 with
        | none => rfl
        | some k => rw [h] at fs; cases fs
      · rw [ln] at e
        have e0 : 0 < (ds.filter fun e => decide (e = d)).length := by
          have := of_decide_eq_false e
          refine Nat.pos_of_ne_zero fun z => this ?_
          rw [z]
          rfl
        have hp : 0 < (plc d ds 0).length := by rw [plc_len]; exact e0
        have hg : ((plc d ds 0).map fun k => V.int ((k : Nat) : Int))[0]? = some (.int (((plc d ds 0)[0] : Nat) : Int)) := by
          rw [List.getElem?_map, List.getElem?_eq_getElem hp]
          rfl
        refine ⟨_, rfl, D, _, _, _, rfl, rfl, SqL.of eD, atI_nat (j := 0) hg, (by show 2 ≤ sizeLine; decide), fin _ (.int _) rfl ?_⟩
        show Dv.int _ = optD (fst d ds 0)
        rw [← plc_head, List.getElem?_eq_getElem hp]
        rfl
end
end My
namespace My
open PySem L2 SX XT XS XE XD XL XZ
open C8 (pss_cut tCut cutS_slice pe_gc)
theorem ne_str {x y : Str} (h : x ≠ y) : decide (V.str x = V.str y) = false := decide_eq_false fun z => by injection z with z; exact h z
section
variable {P : Program} {w : World} {K : PySem.W.Frag} {mg : Str → Option Value} {base : Heap} {A : Ads}
def chgs (i : Int) (d : Dv) : List Cl := [.push d, .insert i d, .pop, .remove i]
def spChg (K : PySem.W.Frag) (A : Ads) : Sp := fun vs H Q _ => ∃ (r : Addr) (us : List V) (ds : List Dv) (v : V) (d : Dv) (c : Cl) (i : Int) (z : Str), vs = [.ref r, .str z, .int i, v] ∧ z = c.nm ∧ c ∈ chgs i d ∧ H r = some (.lst us) ∧ Hs A H us ds ∧ Has A H v d ∧ ds.length ≤ 1000 ∧
  (∀ e es, c.res ds = .val e es → ∀ H' t us', Keep r H H' → H' r = some (.lst us') → Hs A H' us' es → TlAt K A H' t (.told e) → Q (.ref t) H') ∧ (∀ k m, c.res ds = .err k m → TE K A H Q k m)
theorem keepsv {H H' : Hp} {r : Addr} {us us' : List V} (hr : H r = some (.lst us)) (k : Keep r H H') (hr' : H' r = some (.lst us')) : Sv H H' := fun b u e n => k b u e fun z => by rw [z, hr] at e; exact n _ (Option.some.inj e).symm
theorem ok_law_change (L : Lib P K mg A) : FnOk P w K mg base CX0 1 L.law_change.f L.law_change.fd ["row", "name", "i", "value"] (spChg K A) := by
  refine L.law_change.F.ok sc_law_change (fun vs H Q E h => ?_) (fun cdv A' outer s H vs Q E hr h => ?_)
  · obtain ⟨r, us, ds, v, d, c, i, z, rfl, _⟩ := h
    rfl
  · obtain ⟨r, us, ds, v, d, c, i, z, rfl, hz, hc, h1, hu, hv, hl, q1, q2⟩ := h
    have hul := hu.len
    simp only [chgs, List.mem_cons, List.not_mem_nil, or_false] at hc
    have n1 : ("insert" : Str) ≠ "push" ∧ ("pop" : Str) ≠ "push" ∧ ("remove" : Str) ≠ "push" ∧ ("remove" : Str) ≠ "pop" := by decide +kernel
    have i1 : (if false = true then !inV (V.str ("push" : Str)) [V.str "push", V.str "insert"] else inV (V.str ("push" : Str)) [V.str "push", V.str "insert"]) = true := by decide +kernel
    have i2 : (if false = true then !inV (V.str ("insert" : Str)) [V.str "push", V.str "insert"] else inV (V.str ("insert" : Str)) [V.str "push", V.str "insert"]) = true := by decide +kernel
    have i3 : (if false = true then !inV (V.str ("pop" : Str)) [V.str "push", V.str "insert"] else inV (V.str ("pop" : Str)) [V.str "push", V.str "insert"]) = false := by decide +kernel
    have i4 : (if false = true then !inV (V.str ("remove" : Str)) [V.str "push", V.str "insert"] else inV (V.str ("remove" : Str)) [V.str "push", V.str "insert"]) = false := by decide +kernel
    have two : 2 ≤ sizeLine := by decide
    have last : ∀ (e : Dv) (es : List Dv) (ev : V) (H1 : Hp) (us' : List V), c.res ds = .val e es → Keep r H H1 → H1 r = some (.lst us') → Hs A H1 us' es → Has A H1 ev e → ∀ t, H1 t = none → Q (.ref t) (upd H1 t (.tup [.str "told", ev])) := fun e es ev H1 us' hres kk hr1 hs he t nt => by
      have s := same_upd (o := .tup [.str "told", ev]) nt
      exact q1 e es hres _ t us' (fun b u eb n => s _ _ (kk b u eb n)) (s _ _ hr1) (hs.imp fun _ _ h => h.sv (Same.sv s)) ⟨ev, SqT.of upd_same, he.sv (Same.sv s)⟩
    have ferr : ∀ (k m : Str) (H1 : Hp), c.res ds = .err k m → Same H H1 → (k ≠ "told" ∧ PyData.strOk k = true ∧ PyData.strOk m = true) → ∀ t, H1 t = none → Q (.ref t) (upd H1 t (.tup [.str k, .str m])) := fun k m H1 hres s ok t nt => q2 k m hres _ t (s.trans (same_upd nt)) ⟨SqT.of upd_same, ok⟩
    rcases hc with rfl | rfl | rfl | rfl
    · have hz : z = "push" := hz
      subst hz
      refine ⟨_, (pss_cons (ps_set (i := 4) sc_law_change.nd rfl (.inl rfl) (pe_tup (pa_cons pe_str (pa_cons pe_str pa_nil))))
      (pss_cons (ps_if (pt_cmpR op_eq (pv 1) pe_str (nomark _))
        (pss_one (ps_set (i := 2) sc_law_change.nd rfl (.inl rfl) (pe_callB call_len_seq (by rfl) L.z_len PySem.boot_len (pa_cons (pv 0) pa_nil))))
        pss_nil)
      (pss_cons (ps_if (pt_cmpR op_in_seq (pv 1) (pe_tup (pa_cons pe_str (pa_cons pe_str pa_nil))) (by rfl))
        (pss_cons (ps_if (pt_not (pt_chain op_le op_le pe_int (pv 2) (pe_callB call_len_seq (by rfl) L.z_len PySem.boot_len (pa_cons (pv 0) pa_nil))))
        (pss_one (ps_ret (pv 4)))
        pss_nil)
      (pss_cons (ps_if (pt_cmpR op_ge (pe_callB call_len_seq (by rfl) L.z_len PySem.boot_len (pa_cons (pv 0) pa_nil)) pe_int (nomark _))
        (pss_one (ps_ret (pe_tup (pa_cons pe_str (pa_cons pe_str pa_nil)))))
        pss_nil)
      (pss_cons (ps_expr (pe_bm PySem.F.plainAttrs_list PySem.F.slot_list_insert PySem.F.type_list_insert mt_insert (pv 0) (pa_cons (pv 2) (pa_cons (pv 3) pa_nil))))
      (pss_one (ps_ret (pe_tup (pa_cons pe_str (pa_cons pe_non pa_nil))))))))
        pss_nil)
      (pss_cons (ps_if (pt_cmpR op_eq (pv 1) pe_str (nomark _))
        (pss_one (ps_set (i := 2) sc_law_change.nd rfl (.inl rfl) (pe_op op_sub (pe_callB call_len_seq (by rfl) L.z_len PySem.boot_len (pa_cons (pv 0) pa_nil)) pe_int)))
        pss_nil)
      (pss_cons (ps_if (pt_not (pt_chain op_le op_lt pe_int (pv 2) (pe_callB call_len_seq (by rfl) L.z_len PySem.boot_len (pa_cons (pv 0) pa_nil))))
        (pss_one (ps_ret (pv 4)))
        pss_nil)
      (pss_one (ps_ret (pe_tup (pa_cons pe_str (pa_cons (pe_bm PySem.F.plainAttrs_list PySem.F.slot_list_pop PySem.F.type_list_pop mt_popAt (pv 0) (pa_cons (pv 2) pa_nil)) pa_nil)))))))))), ?_⟩
      refine ⟨two, fun T nT => ?_⟩
      have s1 := same_upd (o := .tup [.str "IndexError", .str "index out of range"]) nT
      refine ⟨_, rfl, rfl, _, rfl, ifT (decide_eq_true rfl) ?_⟩
      refine ⟨_, rfl, r, us, rfl, .inl (SqL.of (s1 _ _ h1)), ?_⟩
      refine ⟨_, rfl, two, fun T2 nT2 => ⟨T2, _, rfl, .inr (SqT.of upd_same), rfl, rfl, _, rfl, ifT i1 ?_⟩⟩
      have s2 := s1.trans (same_upd (o := .tup [.str "push", .str "insert"]) nT2)
      have g1 := s2 _ _ h1
      generalize upd (upd H T _) T2 _ = H2 at s2 g1 ⊢
      refine ⟨_, rfl, _, _, rfl, rfl, _, rfl, ite2 (fun h => ⟨_, rfl, r, us, rfl, .inl (SqL.of g1), _, _, rfl, rfl, _, rfl, ?_⟩) (fun h => absurd (nd h) (by omega))⟩
      rw [decide_eq_true (by omega)]
      refine iteF ⟨_, rfl, r, us, rfl, .inl (SqL.of g1), _, _, rfl, rfl, _, rfl, ite2 (fun h => ?_) fun h => ?_⟩
      · refine ⟨two, ferr _ _ H2 ?_ s2 siz_ok⟩
        exact if_neg (by have := of_decide_eq_true h; omega)
      · have hlt : ds.length < 1000 := by have := nd h; omega
        refine ⟨_, rfl, .inl ⟨rfl, _, SqL.of g1⟩, _, rfl, _, rfl, r, us, _, v, rfl, rfl, g1, Nat.lt_of_le_of_lt (m := 1000) (by omega) (by decide), by omega, by omega, two, ?_⟩
        refine last .non (ds ++ [d]) .non _ (us ++ [v]) (if_pos hlt) (fun b u e n => by rw [upd_ne n]; exact s2 _ _ e) ?_ ?_ rfl
        · rw [upd_same, Int.toNat_natCast, List.take_length, List.drop_length, List.append_nil]
        · have sv : Sv H2 (upd H2 r (.lst (List.take ((us.length : Nat) : Int).toNat us ++ [v] ++ List.drop ((us.length : Nat) : Int).toNat us))) := keepsv g1 keep_upd upd_same
          exact ((hu.imp fun _ _ h => (h.sv (Same.sv s2)).sv sv).app (us := [v]) (es := [d]) ⟨(hv.sv (Same.sv s2)).sv sv, trivial⟩)
    · have hz : z = "insert" := hz
      subst hz
      refine ⟨_, (pss_cons (ps_set (i := 4) sc_law_change.nd rfl (.inl rfl) (pe_tup (pa_cons pe_str (pa_cons pe_str pa_nil))))
      (pss_cons (ps_if (pt_cmpR op_eq (pv 1) pe_str (nomark _))
        (pss_one (ps_set (i := 2) sc_law_change.nd rfl (.inl rfl) (pe_callB call_len_seq (by rfl) L.z_len PySem.boot_len (pa_cons (pv 0) pa_nil))))
        pss_nil)
      (pss_cons (ps_if (pt_cmpR op_in_seq (pv 1) (pe_tup (pa_cons pe_str (pa_cons pe_str pa_nil))) (by rfl))
        (pss_cons (ps_if (pt_not (pt_chain op_le op_le pe_int (pv 2) (pe_callB call_len_seq (by rfl) L.z_len PySem.boot_len (pa_cons (pv 0) pa_nil))))
        (pss_one (ps_ret (pv 4)))
        pss_nil)
      (pss_cons (ps_if (pt_cmpR op_ge (pe_callB call_len_seq (by rfl) L.z_len PySem.boot_len (pa_cons (pv 0) pa_nil)) pe_int (nomark _))
        (pss_one (ps_ret (pe_tup (pa_cons pe_str (pa_cons pe_str pa_nil)))))
        pss_nil)
      (pss_cons (ps_expr (pe_bm PySem.F.plainAttrs_list PySem.F.slot_list_insert PySem.F.type_list_insert mt_insert (pv 0) (pa_cons (pv 2) (pa_cons (pv 3) pa_nil))))
      (pss_one (ps_ret (pe_tup (pa_cons pe_str (pa_cons pe_non pa_nil))))))))
        pss_nil)
      (pss_cons (ps_if (pt_cmpR op_eq (pv 1) pe_str (nomark _))
        (pss_one (ps_set (i := 2) sc_law_change.nd rfl (.inl rfl) (pe_op op_sub (pe_callB call_len_seq (by rfl) L.z_len PySem.boot_len (pa_cons (pv 0) pa_nil)) pe_int)))
        pss_nil)
      (pss_cons (ps_if (pt_not (pt_chain op_le op_lt pe_int (pv 2) (pe_callB call_len_seq (by rfl) L.z_len PySem.boot_len (pa_cons (pv 0) pa_nil))))
        (pss_one (ps_ret (pv 4)))
        pss_nil)
      (pss_one (ps_ret (pe_tup (pa_cons pe_str (pa_cons (pe_bm PySem.F.plainAttrs_list PySem.F.slot_list_pop PySem.F.type_list_pop mt_popAt (pv 0) (pa_cons (pv 2) pa_nil)) pa_nil)))))))))), ?_⟩
      refine ⟨two, fun T nT => ?_⟩
      have s1 := same_upd (o := .tup [.str "IndexError", .str "index out of range"]) nT
      have eT : upd H T (.tup [.str "IndexError", .str "index out of range"]) T = some (.tup [.str "IndexError", .str "index out of range"]) := upd_same
      refine ⟨_, rfl, rfl, _, rfl, ifF (ne_str n1.1) ?_⟩
      refine ⟨_, rfl, two, fun T2 nT2 => ⟨T2, _, rfl, .inr (SqT.of upd_same), rfl, rfl, _, rfl, ifT i2 ?_⟩⟩
      have s12 := same_upd (o := .tup [.str "push", .str "insert"]) nT2
      have s2 := s1.trans s12
      have g1 := s2 _ _ h1
      have gT := s12 _ _ eT
      generalize upd (upd H T _) T2 _ = H2 at s2 g1 gT ⊢
      have over : ¬ (0 ≤ i ∧ i ≤ ds.length) → Q (.ref T) H2 := fun n => q2 "IndexError" "index out of range" (if_neg n) _ T s2 ⟨SqT.of gT, idx_ok⟩
      refine ⟨_, rfl, _, _, rfl, rfl, _, rfl, ite2 (fun h => ⟨_, rfl, r, us, rfl, .inl (SqL.of g1), _, _, rfl, rfl, _, rfl, ?_⟩) (fun h => ⟨_, rfl, iteT ⟨_, rfl, over fun z => nd h z.1⟩⟩)⟩
      have h0 := of_decide_eq_true h
      by_cases hle : i ≤ ds.length
      · rw [decide_eq_true (by omega)]
        have hin : 0 ≤ i ∧ i ≤ ds.length := ⟨h0, hle⟩
        refine iteF ⟨_, rfl, r, us, rfl, .inl (SqL.of g1), _, _, rfl, rfl, _, rfl, ite2 (fun h => ?_) fun h => ?_⟩
        · refine ⟨two, ferr _ _ H2 ?_ s2 siz_ok⟩
          show (if _ then _ else _) = _
          rw [if_pos hin, if_neg (by have := of_decide_eq_true h; omega)]
        · have hlt : ds.length < 1000 := by have := nd h; omega
          refine ⟨_, rfl, .inl ⟨rfl, _, SqL.of g1⟩, _, rfl, _, rfl, r, us, _, v, rfl, rfl, g1, Nat.lt_of_le_of_lt (m := 1000) (by omega) (by decide), h0, by omega, two, ?_⟩
          have sv : Sv H2 (upd H2 r (.lst (us.take i.toNat ++ [v] ++ us.drop i.toNat))) := keepsv g1 keep_upd upd_same
          have hu2 := hu.imp fun _ _ h => (h.sv (Same.sv s2)).sv sv
          refine last .non (ds.take i.toNat ++ [d] ++ ds.drop i.toNat) .non _ (us.take i.toNat ++ [v] ++ us.drop i.toNat) ?_ (fun b u e n => by rw [upd_ne n]; exact s2 _ _ e) upd_same (((hu2.take _).app (us := [v]) (es := [d]) ⟨(hv.sv (Same.sv s2)).sv sv, trivial⟩).app (hu2.drop _)) rfl
          show (if _ then _ else _) = _
          rw [if_pos hin, if_pos hlt]
      · rw [decide_eq_false (by omega)]
        exact iteT ⟨_, rfl, over fun z => hle z.2⟩
    · have hz : z = "pop" := hz
      subst hz
      refine ⟨_, (pss_cons (ps_set (i := 4) sc_law_change.nd rfl (.inl rfl) (pe_tup (pa_cons pe_str (pa_cons pe_str pa_nil))))
      (pss_cons (ps_if (pt_cmpR op_eq (pv 1) pe_str (nomark _))
        (pss_one (ps_set (i := 2) sc_law_change.nd rfl (.inl rfl) (pe_callB call_len_seq (by rfl) L.z_len PySem.boot_len (pa_cons (pv 0) pa_nil))))
        pss_nil)
      (pss_cons (ps_if (pt_cmpR op_in_seq (pv 1) (pe_tup (pa_cons pe_str (pa_cons pe_str pa_nil))) (by rfl))
        (pss_cons (ps_if (pt_not (pt_chain op_le op_le pe_int (pv 2) (pe_callB call_len_seq (by rfl) L.z_len PySem.boot_len (pa_cons (pv 0) pa_nil))))
        (pss_one (ps_ret (pv 4)))
        pss_nil)
      (pss_cons (ps_if (pt_cmpR op_ge (pe_callB call_len_seq (by rfl) L.z_len PySem.boot_len (pa_cons (pv 0) pa_nil)) pe_int (nomark _))
        (pss_one (ps_ret (pe_tup (pa_cons pe_str (pa_cons pe_str pa_nil)))))
        pss_nil)
      (pss_cons (ps_expr (pe_bm PySem.F.plainAttrs_list PySem.F.slot_list_insert PySem.F.type_list_insert mt_insert (pv 0) (pa_cons (pv 2) (pa_cons (pv 3) pa_nil))))
      (pss_one (ps_ret (pe_tup (pa_cons pe_str (pa_cons pe_non pa_nil))))))))
        pss_nil)
      (pss_cons (ps_if (pt_cmpR op_eq (pv 1) pe_str (nomark _))
        (pss_one (ps_set (i := 2) sc_law_change.nd rfl (.inl rfl) (pe_op op_sub (pe_callB call_len_seq (by rfl) L.z_len PySem.boot_len (pa_cons (pv 0) pa_nil)) pe_int)))
        pss_nil)
      (pss_cons (ps_if (pt_not (pt_chain op_le op_lt pe_int (pv 2) (pe_callB call_len_seq (by rfl) L.z_len PySem.boot_len (pa_cons (pv 0) pa_nil))))
        (pss_one (ps_ret (pv 4)))
        pss_nil)
      (pss_one (ps_ret (pe_tup (pa_cons pe_str (pa_cons (pe_bm PySem.F.plainAttrs_list PySem.F.slot_list_pop PySem.F.type_list_pop mt_popAt (pv 0) (pa_cons (pv 2) pa_nil)) pa_nil)))))))))), ?_⟩
      refine ⟨two, fun T nT => ?_⟩
      have s1 := same_upd (o := .tup [.str "IndexError", .str "index out of range"]) nT
      have eT : upd H T (.tup [.str "IndexError", .str "index out of range"]) T = some (.tup [.str "IndexError", .str "index out of range"]) := upd_same
      refine ⟨_, rfl, rfl, _, rfl, ifF (ne_str n1.2.1) ?_⟩
      refine ⟨_, rfl, two, fun T2 nT2 => ⟨T2, _, rfl, .inr (SqT.of upd_same), rfl, rfl, _, rfl, ifF i3 ?_⟩⟩
      have s12 := same_upd (o := .tup [.str "push", .str "insert"]) nT2
      have s2 := s1.trans s12
      have g1 := s2 _ _ h1
      have gT := s12 _ _ eT
      generalize upd (upd H T _) T2 _ = H2 at s2 g1 gT ⊢
      refine ⟨_, rfl, rfl, _, rfl, ifT (decide_eq_true rfl) ?_⟩
      refine ⟨_, rfl, r, us, rfl, .inl (SqL.of g1), _, _, rfl, rfl, ?_⟩
      have over : ds = [] → Q (.ref T) H2 := fun n => q2 "IndexError" "index out of range" (if_pos n) _ T s2 ⟨SqT.of gT, idx_ok⟩
      have em : ¬ (0 : Int) ≤ ((us.length : Nat) : Int) - 1 → ds = [] := fun n => List.length_eq_zero_iff.mp (by omega)
      refine ⟨_, rfl, _, _, rfl, rfl, _, rfl, ite2 (fun h => ⟨_, rfl, r, us, rfl, .inl (SqL.of g1), _, _, rfl, rfl, _, rfl, ?_⟩) (fun h => ⟨_, rfl, iteT ⟨_, rfl, over (em (nd h))⟩⟩)⟩
      have h0 := of_decide_eq_true h
      rw [decide_eq_true (by omega)]
      have hne : ds ≠ [] := fun z => by rw [z, List.length_nil] at hul; omega
      have hlast : ds[ds.length - 1]? = some (ds.getLast?.getD .non) := by
        rw [List.getLast?_eq_getElem?]
        cases e : ds[ds.length - 1]? with
        | none => exact absurd (List.getElem?_eq_none_iff.mp e) (by have := List.length_pos_iff.mpr hne; omega)
        | some d => rfl
      obtain ⟨y, hy, hyd⟩ := hu.at hlast
      have hk : seqIndex? (((us.length : Nat) : Int) - 1) us.length = some (us.length - 1) := by
        have := seq_nat (i := us.length - 1) (n := us.length) (by omega)
        rw [show (((us.length - 1 : Nat)) : Int) = ((us.length : Nat) : Int) - 1 by omega] at this
        exact this
      refine iteF ⟨_, rfl, .inl ⟨rfl, _, SqL.of g1⟩, _, rfl, r, us, _, us.length - 1, y, rfl, rfl, g1, by omega, by omega, hk, by rw [hul]; exact hy, two, ?_⟩
      have dl : us.eraseIdx (us.length - 1) = us.dropLast := by
        rw [List.eraseIdx_eq_take_drop_succ, List.drop_eq_nil_of_le (by omega), List.append_nil, List.dropLast_eq_take]
      rw [dl]
      have sv : Sv H2 (upd H2 r (.lst us.dropLast)) := keepsv g1 keep_upd upd_same
      exact last (ds.getLast?.getD .non) ds.dropLast y _ us.dropLast (if_neg hne) (fun b u e n => by rw [upd_ne n]; exact s2 _ _ e) upd_same (hu.imp fun _ _ h => (h.sv (Same.sv s2)).sv sv).init ((hyd.sv (Same.sv s2)).sv sv)
    · have hz : z = "remove" := hz
      subst hz
      refine ⟨_, (pss_cons (ps_set (i := 4) sc_law_change.nd rfl (.inl rfl) (pe_tup (pa_cons pe_str (pa_cons pe_str pa_nil))))
      (pss_cons (ps_if (pt_cmpR op_eq (pv 1) pe_str (nomark _))
        (pss_one (ps_set (i := 2) sc_law_change.nd rfl (.inl rfl) (pe_callB call_len_seq (by rfl) L.z_len PySem.boot_len (pa_cons (pv 0) pa_nil))))
        pss_nil)
      (pss_cons (ps_if (pt_cmpR op_in_seq (pv 1) (pe_tup (pa_cons pe_str (pa_cons pe_str pa_nil))) (by rfl))
        (pss_cons (ps_if (pt_not (pt_chain op_le op_le pe_int (pv 2) (pe_callB call_len_seq (by rfl) L.z_len PySem.boot_len (pa_cons (pv 0) pa_nil))))
        (pss_one (ps_ret (pv 4)))
        pss_nil)
      (pss_cons (ps_if (pt_cmpR op_ge (pe_callB call_len_seq (by rfl) L.z_len PySem.boot_len (pa_cons (pv 0) pa_nil)) pe_int (nomark _))
        (pss_one (ps_ret (pe_tup (pa_cons pe_str (pa_cons pe_str pa_nil)))))
        pss_nil)
      (pss_cons (ps_expr (pe_bm PySem.F.plainAttrs_list PySem.F.slot_list_insert PySem.F.type_list_insert mt_insert (pv 0) (pa_cons (pv 2) (pa_cons (pv 3) pa_nil))))
      (pss_one (ps_ret (pe_tup (pa_cons pe_str (pa_cons pe_non pa_nil))))))))
        pss_nil)
      (pss_cons (ps_if (pt_cmpR op_eq (pv 1) pe_str (nomark _))
        (pss_one (ps_set (i := 2) sc_law_change.nd rfl (.inl rfl) (pe_op op_sub (pe_callB call_len_seq (by rfl) L.z_len PySem.boot_len (pa_cons (pv 0) pa_nil)) pe_int)))
        pss_nil)
      (pss_cons (ps_if (pt_not (pt_chain op_le op_lt pe_int (pv 2) (pe_callB call_len_seq (by rfl) L.z_len PySem.boot_len (pa_cons (pv 0) pa_nil))))
        (pss_one (ps_ret (pv 4)))
        pss_nil)
      (pss_one (ps_ret (pe_tup (pa_cons pe_str (pa_cons (pe_bm PySem.F.plainAttrs_list PySem.F.slot_list_pop PySem.F.type_list_pop mt_popAt (pv 0) (pa_cons (pv 2) pa_nil)) pa_nil)))))))))), ?_⟩
      refine ⟨two, fun T nT => ?_⟩
      have s1 := same_upd (o := .tup [.str "IndexError", .str "index out of range"]) nT
      have eT : upd H T (.tup [.str "IndexError", .str "index out of range"]) T = some (.tup [.str "IndexError", .str "index out of range"]) := upd_same
      refine ⟨_, rfl, rfl, _, rfl, ifF (ne_str n1.2.2.1) ?_⟩
      refine ⟨_, rfl, two, fun T2 nT2 => ⟨T2, _, rfl, .inr (SqT.of upd_same), rfl, rfl, _, rfl, ifF i4 ?_⟩⟩
      have s12 := same_upd (o := .tup [.str "push", .str "insert"]) nT2
      have s2 := s1.trans s12
      have g1 := s2 _ _ h1
      have gT := s12 _ _ eT
      generalize upd (upd H T _) T2 _ = H2 at s2 g1 gT ⊢
      refine ⟨_, rfl, rfl, _, rfl, ifF (ne_str n1.2.2.2) ?_⟩
      have over : ¬ (0 ≤ i ∧ i < ds.length) → Q (.ref T) H2 := fun n => q2 "IndexError" "index out of range" (if_neg n) _ T s2 ⟨SqT.of gT, idx_ok⟩
      refine ⟨_, rfl, _, _, rfl, rfl, _, rfl, ite2 (fun h => ⟨_, rfl, r, us, rfl, .inl (SqL.of g1), _, _, rfl, rfl, _, rfl, ?_⟩) (fun h => ⟨_, rfl, iteT ⟨_, rfl, over fun z => nd h z.1⟩⟩)⟩
      have h0 := of_decide_eq_true h
      by_cases hlt : i < ds.length
      · rw [decide_eq_true (by omega)]
        have hin : 0 ≤ i ∧ i < ds.length := ⟨h0, hlt⟩
        have hi : i.toNat < ds.length := by omega
        have hat : ds[i.toNat]? = some (ds[i.toNat]?.getD .non) := by rw [List.getElem?_eq_getElem hi]; rfl
        obtain ⟨y, hy, hyd⟩ := hu.at hat
        have hk : seqIndex? i us.length = some i.toNat := by
          have := seq_nat (i := i.toNat) (n := us.length) (by omega)
          rw [Int.toNat_of_nonneg h0] at this
          exact this
        refine iteF ⟨_, rfl, .inl ⟨rfl, _, SqL.of g1⟩, _, rfl, r, us, _, i.toNat, y, rfl, rfl, g1, by omega, by omega, hk, hy, two, ?_⟩
        have sv : Sv H2 (upd H2 r (.lst (us.eraseIdx i.toNat))) := keepsv g1 keep_upd upd_same
        exact last (ds[i.toNat]?.getD .non) (ds.eraseIdx i.toNat) y _ (us.eraseIdx i.toNat) (if_pos hin) (fun b u e n => by rw [upd_ne n]; exact s2 _ _ e) upd_same ((hu.imp fun _ _ h => (h.sv (Same.sv s2)).sv sv).erase _) ((hyd.sv (Same.sv s2)).sv sv)
      · rw [decide_eq_false (by omega)]
        exact iteT ⟨_, rfl, over fun z => hlt z.2⟩
end
end My
namespace My
open PySem L2 SX XT XS XE XD XL XZ
open C8 (pss_cut tCut cutS_slice pe_gc)
section
variable {P : Program} {w : World} {K : PySem.W.Frag} {mg : Str → Option Value} {base : Heap} {A : Ads}
theorem Pt.keep {H H' : Hp} {a : Sa} {S : St} {n : Nat} {x m p : Addr} {ds : List Dv} {xs : List V} (q : Pt P w A H a S n x m ds) (k : Keep p H H') (hp : H p = some (.lst xs)) (np : ¬ a.own p) : Pt P w A H' a S n x m ds := ⟨q.sm.keep k hp np, q.x_, q.m_, q.th⟩
def spNew (P : Program) (w : World) (K : PySem.W.Frag) (A : Ads) : Sp := fun vs H Q _ => ∃ (a : Sa) (S : St) (t r l : Addr) (es : List Dv) (ws : List V) (n : Nat), vs = [.ref a.s, .ref t, .ref l] ∧ SM P w A H a S ∧ S.things[n]? = some (.parts es) ∧ n + 1 = S.things.length ∧ SqT K H t [.str "told", .ref r] ∧ Has A H (.ref r) (.obj n) ∧ SqL K H l ws ∧ Hs A H ws es ∧ es.length ≤ 2000 ∧ Q (.bl true) H
theorem ok_law_new (L : Lib P K mg A) : FnOk P w K mg base CX0 4 L.law_new.f L.law_new.fd ["store", "told", "due"] (spNew P w K A) := by
  have G_law_rows : FnOk P w K mg base CX0 3 L.law_rows.f L.law_rows.fd ["told", "due"] (spRws K A) := ok_law_rows L
  refine L.law_new.F.ok sc_law_new (fun vs H Q E h => ?_) (fun cdv A' outer s H vs Q E hr h => ?_)
  · obtain ⟨a, S, t, r, l, es, ws, n, rfl, _⟩ := h
    rfl
  · obtain ⟨a, S, t, r, l, es, ws, n, rfl, hS, hth, hn, st, hr1, hl, hw, hz, q⟩ := h
    obtain ⟨x, m, hX, hM, dx, us, g1, g2, g3⟩ := hS.get hth
    obtain ⟨ds0, hs0⟩ := hS.s_
    obtain ⟨b, dr, e, hR⟩ := id hr1
    cases e
    refine ⟨_, (pss_cons (ps_if (PW.pt (pw_or (pt_cmpR op_ne (pe_ix ix_tup (pv 1) pe_int (fun _ _ => rfl)) pe_str (nomark _)) (pw_or (pt_not (pt_val (pe_callB call_isi (by rfl) L.z_isinstance (by decide +kernel) (pa_cons (pe_ix ix_tup (pv 1) pe_int (fun _ _ => rfl)) (pa_cons (pe_gc (v := .ref A.Ref) (by rfl) ⟨_, L.c_Ref.g, rfl⟩) pa_nil))))) (pw_or1 (pt_cmpR op_ne (pe_fld (pe_ix ix_tup (pv 1) pe_int (fun _ _ => rfl)) rfl) (pe_op op_sub (pe_callB call_len_seq (by rfl) L.z_len PySem.boot_len (pa_cons (pe_fld (pv 0) rfl) pa_nil)) pe_int) (nomark _))))))
        (pss_one (ps_ret pe_bl))
        pss_nil)
      (pss_one (ps_ret (pe_call G_law_rows (hr.mono (by omega)) (by rfl) L.law_rows.g L.law_rows.F.kp L.law_rows.b .nil pass0 (pa_cons (pe_fld (pe_ix ix_list (pe_fld (pv 0) rfl) (pe_fld (pe_ix ix_tup (pv 1) pe_int (fun _ _ => rfl)) rfl) (fun _ _ => rfl)) rfl) (pa_cons (pv 2) pa_nil)))))), ?_⟩
    refine ⟨_, rfl, t, _, _, _, rfl, rfl, st, atI_nat (j := 0) rfl, rfl, _, rfl, ifF (by simp) ?_⟩
    refine ⟨_, rfl, t, _, _, .ref r, rfl, rfl, st, atI_nat (j := 1) rfl, .ref r, .ref A.Ref, _, .ref A.Ref, _, rfl, .own _, has_ty L hr1, kit_R L (.obj n), _, rfl, ?_⟩
    refine ifF rfl ?_
    refine ⟨_, rfl, t, _, _, .ref r, rfl, rfl, st, atI_nat (j := 1) rfl, r, A.Ref, dr, _, _, rfl, hR, L.c_Ref.cl, L.n_Ref_number, lk_hit, _, rfl, a.s, A.Store, ds0, _, _, rfl, hs0, L.c_Store.cl, L.n_Store_things, st_things _ _ _ _, a.t, _, rfl, .inl (SqL.of hS.t_), _, _, rfl, rfl, rfl, _, rfl, ifF ?_ ?_⟩
    · rw [List.length_map, hS.lx, ← hn]
      simp
    refine ⟨_, rfl, a.s, A.Store, ds0, _, _, rfl, hs0, L.c_Store.cl, L.n_Store_things, st_things _ _ _ _, _, rfl, t, _, _, .ref r, rfl, rfl, st, atI_nat (j := 1) rfl, r, A.Ref, dr, _, _, rfl, hR, L.c_Ref.cl, L.n_Ref_number, lk_hit, a.t, _, _, .ref x, rfl, rfl, SqL.of hS.t_, atI_nat (by rw [List.getElem?_map, hX]; rfl), x, A.Parts, dx, _, _, rfl, g1, L.c_Parts.cl, L.n_Parts_held, lk_hit, _, rfl, m, l, us, ws, es, es, rfl, g2, hl, g3, hw, hz, ?_⟩
    rw [decide_eq_true rfl]
    exact q
def spElm (P : Program) (w : World) (K : PySem.W.Frag) (A : Ads) : Sp := fun vs H Q _ => ∃ (a : Sa) (S : St) (x m r t : Addr) (ds es : List Dv) (us : List V) (i : Int) (v : V) (d : Dv), vs = [.ref a.s, .ref r, .int i, v, .ref t] ∧ Pt P w A H a S 1 x m es ∧ H r = some (.lst us) ∧ Hs A H us ds ∧ Has A H v d ∧
  (¬ (0 ≤ i ∧ i < ds.length) → TlAt K A H t (.err "IndexError" "index out of range") ∧ ∀ H', Same H H' → Q (.bl true) H') ∧
  (0 ≤ i ∧ i < ds.length → ∃ e, TlAt K A H t (.told e) ∧ ((es = ds ∧ ds[i.toNat]? = some e) ∨ (es = ds.set i.toNat d ∧ e = d)) ∧ ∀ H' us', Keep r H H' → H' r = some (.lst us') → Hs A H' us' es → Q (.bl true) H')
theorem ok_law_elements (L : Lib P K mg A) : FnOk P w K mg base CX0 3 L.law_elements.f L.law_elements.fd ["store", "row", "i", "value", "told"] (spElm P w K A) := by
  have G_law_same : FnOk P w K mg base CX0 2 L.law_same.f L.law_same.fd ["x", "y"] (spS2 A) := ok_law_same L
  refine L.law_elements.F.ok sc_law_elements (fun vs H Q E h => ?_) (fun cdv A' outer s H vs Q E hr h => ?_)
  · obtain ⟨a, S, x, m, r, t, ds, es, us, i, v, d, rfl, _⟩ := h
    rfl
  · obtain ⟨a, S, x, m, r, t, ds, es, us, i, v, d, rfl, hp, h1, hu, hv, q1, q2⟩ := h
    have hul := hu.len
    refine ⟨_, (pss_cons (ps_if (pt_not (pt_chain op_le op_lt pe_int (pv 2) (pe_callB call_len_seq (by rfl) L.z_len PySem.boot_len (pa_cons (pv 1) pa_nil))))
        (pss_one (ps_ret (pe_cmpR (op_eqD (units64 hr)) (pv 4) (pe_tup (pa_cons pe_str (pa_cons pe_str pa_nil))) (nomark _))))
        pss_nil)
      (pss_cons (ps_if (pt_cmpR op_ne (pe_ix ix_tup (pv 4) pe_int (fun _ _ => rfl)) pe_str (nomark _))
        (pss_one (ps_ret pe_bl))
        pss_nil)
      (pss_cons (ps_if (PW.pt (pw_and (pt_val (pe_call G_law_same (hr.mono (by omega)) (by rfl) L.law_same.g L.law_same.F.kp L.law_same.b .nil pass0 (pa_cons (pe_ix ix_list (pe_fld (pe_ix ix_list (pe_fld (pv 0) rfl) pe_int (fun _ _ => rfl)) rfl) (pv 2) (fun _ _ => rfl)) (pa_cons (pe_ix ix_list (pv 1) (pv 2) (fun _ _ => rfl)) pa_nil)))) (pw_and1 (pt_val (pe_call G_law_same (hr.mono (by omega)) (by rfl) L.law_same.g L.law_same.F.kp L.law_same.b .nil pass0 (pa_cons (pe_ix ix_tup (pv 4) pe_int (fun _ _ => rfl)) (pa_cons (pe_ix ix_list (pv 1) (pv 2) (fun _ _ => rfl)) pa_nil)))))))
        (pss_one (ps_ret pe_bl))
        pss_nil)
      (pss_cons (ps_asg (pv 3) (pg_sub (pv 1) (pv 2) set_list))
      (pss_one (ps_ret (pe_call G_law_same (hr.mono (by omega)) (by rfl) L.law_same.g L.law_same.F.kp L.law_same.b .nil pass0 (pa_cons (pe_ix ix_tup (pv 4) pe_int (fun _ _ => rfl)) (pa_cons (pv 3) pa_nil))))))))), ?_⟩
    have over : ¬ (0 ≤ i ∧ i < ds.length) → ∀ T, H T = none → ∃ d_1 e, Dp K (upd H T (.tup [.str "IndexError", .str "index out of range"])) (.ref t) d_1 ∧ Dp K (upd H T (.tup [.str "IndexError", .str "index out of range"])) (.ref T) e ∧ SeqAt.shaped d_1 = true ∧ SeqAt.shaped e = true ∧ Q (.bl (PyData.eqv d_1 e)) (upd H T (.tup [.str "IndexError", .str "index out of range"])) := fun n T nT => by
      obtain ⟨⟨s1, hk, k1, k2⟩, q⟩ := q1 n
      refine ⟨_, _, ss_dpT (sqt_same (same_upd nT) s1), ss_dpT (SqT.of upd_same), ss_shape k1 k2, ss_shape k1 k2, ?_⟩
      rw [eqv_ss, decide_eq_true rfl, decide_eq_true rfl]
      exact q _ (same_upd nT)
    refine ⟨_, rfl, _, _, rfl, rfl, _, rfl, ite2 (fun h => ⟨_, rfl, r, us, rfl, .inl (SqL.of h1), _, _, rfl, rfl, _, rfl, ?_⟩) (fun h => ⟨_, rfl, iteT ⟨_, rfl, (by show 2 ≤ sizeLine; decide), over fun z => nd h z.1⟩⟩)⟩
    have h0 := of_decide_eq_true h
    by_cases hlt : i < ds.length
    · rw [decide_eq_true (by omega)]
      have hin : 0 ≤ i ∧ i < ds.length := ⟨h0, hlt⟩
      obtain ⟨e, ⟨tv, ts, te⟩, hc, q⟩ := q2 hin
      refine iteF ⟨_, rfl, t, _, _, _, rfl, rfl, ts, atI_nat (j := 0) rfl, rfl, _, rfl, ifF (by simp) ?_⟩
      obtain ⟨ds0, hs0⟩ := hp.sm.s_
      obtain ⟨dx, vs, g1, g2, g3⟩ := hp.at_
      have hi : i.toNat < ds.length := by omega
      have ei : ((i.toNat : Nat) : Int) = i := Int.toNat_of_nonneg h0
      have hese : es[i.toNat]? = some e := by
        rcases hc with ⟨rfl, h⟩ | ⟨rfl, rfl⟩
        · exact h
        · rw [List.getElem?_set_self hi]
      obtain ⟨dd, hdd⟩ : ∃ dd, ds[i.toNat]? = some dd := ⟨_, List.getElem?_eq_getElem hi⟩
      obtain ⟨u1, hu1, hud1⟩ := g3.at hese
      obtain ⟨u2, hu2, hud2⟩ := hu.at hdd
      have a1 : atI vs i = some u1 := by rw [← ei]; exact atI_nat hu1
      have a2 : atI us i = some u2 := by rw [← ei]; exact atI_nat hu2
      have ax : atI (a.X.map V.ref) 1 = some (.ref x) := atI_nat (j := 1) (by rw [List.getElem?_map, hp.x_]; rfl)
      refine ⟨_, rfl, a.s, A.Store, ds0, _, _, rfl, hs0, L.c_Store.cl, L.n_Store_things, st_things _ _ _ _, a.t, _, _, .ref x, rfl, rfl, SqL.of hp.sm.t_, ax, x, A.Parts, dx, _, _, rfl, g1, L.c_Parts.cl, L.n_Parts_held, lk_hit, _, rfl, m, vs, i, u1, rfl, rfl, SqL.of g2, a1, _, rfl, _, rfl, r, us, i, u2, rfl, rfl, SqL.of h1, a2, u1, u2, e, dd, rfl, hud1, hud2, _, rfl, ?_⟩
      have same : e = dd → es = ds := fun z => by
        rcases hc with ⟨h, _⟩ | ⟨h, h2⟩
        · exact h
        · rw [h, ← h2, z]
          apply List.ext_getElem?
          intro j
          by_cases hj : i.toNat = j
          · subst hj
            rw [List.getElem?_set_self hi, hdd]
          · rw [List.getElem?_set_ne hj]
      by_cases ed : e = dd
      · rw [decide_eq_true ed]
        refine iteT ⟨_, rfl, t, _, _, tv, rfl, rfl, ts, atI_nat (j := 1) rfl, _, rfl, _, rfl, r, us, i, u2, rfl, rfl, SqL.of h1, a2, tv, u2, e, dd, rfl, te, hud2, _, rfl, ?_⟩
        rw [decide_eq_true ed]
        refine iteT (q H us (fun _ _ e _ => e) h1 ?_)
        rw [same ed]
        exact hu
      · rw [decide_eq_false ed]
        obtain ⟨ees, eed⟩ : es = ds.set i.toNat d ∧ e = d := by
          rcases hc with ⟨h, h2⟩ | h
          · rw [hdd] at h2
            exact absurd (Option.some.inj h2).symm ed
          · exact h
        have hix : ixN us.length i = some i.toNat := by
          have := ixN_nat (i := i.toNat) (n := us.length) (by omega)
          rw [ei] at this
          exact this
        have sv : Sv H (upd H r (.lst (us.set i.toNat v))) := keepsv h1 keep_upd upd_same
        refine iteF (iteF ⟨_, rfl, _, rfl, _, rfl, r, us, i, i.toNat, rfl, rfl, h1, hix, ?_⟩)
        refine ⟨_, rfl, t, _, _, tv, rfl, rfl, sqt_keep keep_upd h1 ts, atI_nat (j := 1) rfl, _, rfl, tv, v, e, d, rfl, te.sv sv, hv.sv sv, ?_⟩
        rw [decide_eq_true eed]
        refine q _ _ keep_upd upd_same ?_
        rw [ees]
        exact (hu.imp fun _ _ h => h.sv sv).set _ (hv.sv sv)
    · rw [decide_eq_false (by omega)]
      exact iteT ⟨_, rfl, (by show 2 ≤ sizeLine; decide), over fun z => hlt z.2⟩
/-! ### wrong calls -/
def spPickL (K : PySem.W.Frag) : Sp := fun vs H Q _ => ∃ (a p r : Addr) (ns : List Int) (xs : List V), vs = [.ref p, .ref r] ∧ StL K H a p ns ∧ H r = some (.lst xs) ∧ r ≠ p ∧ 0 < xs.length ∧ xs.length ≤ 100 ∧ ∀ H' v, v ∈ xs → Keep p H H' → StL K H' a p ns → Q v H'
theorem ok_law_pickL (L : Lib P K mg A) : FnOk P w K mg base CX0 3 L.law_pick.f L.law_pick.fd ["state", "row"] (spPickL K) := by
  have G_law_draw : FnOk P w K mg base CX0 2 L.law_draw.f L.law_draw.fd ["state", "many"] (spDraw K) := ok_law_draw L
  refine L.law_pick.F.ok sc_law_pick (fun vs H Q E h => ?_) (fun cdv A' outer s H vs Q E hr h => ?_)
  · obtain ⟨a, p, r, ns, xs, rfl, _⟩ := h
    rfl
  · obtain ⟨a, p, r, ns, xs, rfl, hst, ht, hne, h0, h1, q⟩ := h
    refine ⟨_, (pss_one (ps_ret (pe_ix ix_list (pv 1) (pe_call G_law_draw (hr.mono (by omega)) (by rfl) L.law_draw.g L.law_draw.F.kp L.law_draw.b .nil pass0 (pa_cons (pv 0) (pa_cons (pe_callB call_len_seq (by rfl) L.z_len PySem.boot_len (pa_cons (pv 1) pa_nil)) pa_nil))) (fun _ _ => rfl)))), ?_⟩
    refine ⟨_, rfl, _, rfl, _, rfl, r, _, rfl, .inl (SqL.of ht), a, p, ns, _, rfl, hst, by omega, by omega, fun H' i k1 st i0 i1 => ?_⟩
    obtain ⟨j, rfl⟩ : ∃ j : Nat, i = (j : Int) := ⟨i.toNat, by omega⟩
    have hj : j < xs.length := by omega
    exact ⟨r, xs, _, xs[j], rfl, rfl, SqL.of (k1 _ _ ht hne), atI_nat (List.getElem?_eq_getElem hj), q H' _ (List.getElem_mem hj) k1 st⟩
theorem Kl.t0 {a : Sa} {S : St} {n : Nat} {x : Addr} {row : List Dv} {H : Hp} {Q : VK} {b : Bd} (h : TE K A H Q "KindError" "wrong argument") : (Kl.bad b false).t P w K A a S n x row H Q := h
theorem Kl.t1 {a : Sa} {S : St} {n : Nat} {x : Addr} {row : List Dv} {H : Hp} {Q : VK} {b : Bd} (h : TE K A H Q "ArityError" (arM b.kinds.length (b.args.length + 1))) : (Kl.bad b true).t P w K A a S n x row H Q := h
theorem Kl.t2 {a : Sa} {S : St} {n : Nat} {x : Addr} {row : List Dv} {H : Hp} {Q : VK} {b : Bd} {z : Str} (hz : z ∈ missN) (h : TE K A H Q "FieldError" (("list" : Str) ++ (" has no field " : Str) ++ z)) : (Kl.miss b z).t P w K A a S n x row H Q := ⟨hz, h⟩
theorem arM1 (k : Nat) : ("expected 1 arguments, got " : Str) ++ ((toString ((k : Nat) : Int) : String) : Str) = arM 1 k := by
  unfold arM
  rw [show ("expected " : Str) ++ ((toString ((1 : Nat) : Int) : String) : Str) ++ (" arguments, got " : Str) = ("expected 1 arguments, got " : Str) by decide +kernel]
theorem arM2 (k : Nat) : ("expected 2 arguments, got " : Str) ++ ((toString ((k : Nat) : Int) : String) : Str) = arM 2 k := by
  unfold arM
  rw [show ("expected " : Str) ++ ((toString ((2 : Nat) : Int) : String) : Str) ++ (" arguments, got " : Str) = ("expected 2 arguments, got " : Str) by decide +kernel]
theorem fldS (z : Str) : ("list has no field " : Str) ++ z = ("list" : Str) ++ (" has no field " : Str) ++ z := by
  rw [show ("list" : Str) ++ (" has no field " : Str) = ("list has no field " : Str) by decide +kernel]
theorem str_small : ∀ k, k < 5 → ((toString ((k : Nat) : Int) : String) : Str).length ≤ 10 := by decide +kernel
def spWrong (P : Program) (w : World) (K : PySem.W.Frag) (A : Ads) : Sp := fun vs H Q _ => ∃ (a p : Addr) (ns : List Int) (sa : Sa) (S : St) (x m : Addr) (row : List Dv), vs = [.ref sa.s, .ref p] ∧ StL K H a p ns ∧ Pt P w A H sa S 1 x m row ∧ ¬ sa.own p ∧ row.length ≤ 1000 ∧ S.things.length < 100000 ∧ ∀ H', Keep p H H' → StL K H' a p ns → Q (.bl true) H'
theorem ok_law_wrong (L : Lib P K mg A) (D : Fd w L) : FnOk P w K mg base CX0 10 L.law_wrong.f L.law_wrong.fd ["store", "state"] (spWrong P w K A) := by
  have G_law_pick : FnOk P w K mg base CX0 3 L.law_pick.f L.law_pick.fd ["state", "row"] (spPick K) := ok_law_pick L
  have G_law_pickL : FnOk P w K mg base CX0 3 L.law_pick.f L.law_pick.fd ["state", "row"] (spPickL K) := ok_law_pickL L
  have G_law_call : FnOk P w K mg base CX0 9 L.law_call.f L.law_call.fd ["store", "name", "values"] (spLCall P w K A) := ok_law_call L D
  refine L.law_wrong.F.ok sc_law_wrong (fun vs H Q E h => ?_) (fun cdv A' outer s H vs Q E hr h => ?_)
  · obtain ⟨a, p, ns, sa, S, x, m, row, rfl, _⟩ := h
    rfl
  · obtain ⟨a, p, ns, sa, S, x, m, row, rfl, st, hp, np, hz, hb, q⟩ := h
    have two : 2 ≤ sizeLine := by decide
    refine ⟨_, (pss_cons (ps_asg (pe_call G_law_pickL (hr.mono (by omega)) (by rfl) L.law_pick.g L.law_pick.F.kp L.law_pick.b .nil pass0 (pa_cons (pv 1) (pa_cons (pe_lst (pa_cons (pe_tup (pa_cons pe_str (pa_cons (pe_lst (pa_cons pe_str (pa_cons pe_int pa_nil))) pa_nil))) (pa_cons (pe_tup (pa_cons pe_str (pa_cons (pe_lst (pa_cons pe_bl pa_nil)) pa_nil))) (pa_cons (pe_tup (pa_cons pe_str (pa_cons (pe_lst (pa_cons pe_int (pa_cons pe_non pa_nil))) pa_nil))) (pa_cons (pe_tup (pa_cons pe_str (pa_cons (pe_lst (pa_cons pe_int pa_nil)) pa_nil))) pa_nil))))) pa_nil))) (pg_tup (by rfl) (pgs_cons (pg_name (i := 2) sc_law_wrong.nd rfl (.inl rfl)) (pgs_cons (pg_name (i := 3) sc_law_wrong.nd rfl (.inl rfl)) pgs_nil))))
      (pss_cons (ps_if (pt_cmpR (op_neD (units64 hr)) (pe_call G_law_call (hr.mono (by omega)) (by rfl) L.law_call.g L.law_call.F.kp L.law_call.b .nil pass0 (pa_cons (pv 0) (pa_cons (pv 2) (pa_cons (pv 3) pa_nil)))) (pe_tup (pa_cons pe_str (pa_cons pe_str pa_nil))) (nomark _))
        (pss_one (ps_ret pe_bl))
        pss_nil)
      (pss_cons (ps_set (i := 4) sc_law_wrong.nd rfl (.inl rfl) (pe_tup (pa_cons pe_str (pa_cons (pe_op op_add_str pe_str (pe_callTy call_str_int (by rfl) L.z_str (by decide +kernel) (pa_cons (pe_op op_add (pe_callB call_len_seq (by rfl) L.z_len PySem.boot_len (pa_cons (pv 3) pa_nil)) pe_int) pa_nil))) pa_nil))))
      (pss_cut (ps_if (pt_cmpR op_in_seq (pv 2) (pe_tup (pa_cons pe_str (pa_cons pe_str pa_nil))) (by rfl))
        (pss_one (ps_set (i := 4) sc_law_wrong.nd rfl (.inl rfl) (pe_tup (pa_cons pe_str (pa_cons (pe_op op_add_str pe_str (pe_callTy call_str_int (by rfl) L.z_str (by decide +kernel) (pa_cons (pe_op op_add (pe_callB call_len_seq (by rfl) L.z_len PySem.boot_len (pa_cons (pv 3) pa_nil)) pe_int) pa_nil))) pa_nil)))))
        pss_nil)
      (pss_cons (ps_if (pt_cmpR (op_neD (units64 hr)) (pe_call G_law_call (hr.mono (by omega)) (by rfl) L.law_call.g L.law_call.F.kp L.law_call.b .nil pass0 (pa_cons (pv 0) (pa_cons (pv 2) (pa_cons (pe_op op_cat (pv 3) (pe_lst (pa_cons pe_int pa_nil))) pa_nil)))) (pv 4) (nomark _))
        (pss_one (ps_ret pe_bl))
        pss_nil)
      (pss_cons (ps_set (i := 2) sc_law_wrong.nd rfl (.inl rfl) (pe_call G_law_pick (hr.mono (by omega)) (by rfl) L.law_pick.g L.law_pick.F.kp L.law_pick.b .nil pass0 (pa_cons (pv 1) (pa_cons (pe_tup (pa_cons pe_str (pa_cons pe_str (pa_cons pe_str (pa_cons pe_str (pa_cons pe_str pa_nil)))))) pa_nil))))
      (pss_one (ps_ret (pe_cmpR (op_eqD (units64 hr)) (pe_call G_law_call (hr.mono (by omega)) (by rfl) L.law_call.g L.law_call.F.kp L.law_call.b .nil pass0 (pa_cons (pv 0) (pa_cons (pv 2) (pa_cons (pv 3) pa_nil)))) (pe_tup (pa_cons pe_str (pa_cons (pe_op op_add_str pe_str (pv 2)) pa_nil))) (nomark _)))))))))), ?_⟩
    refine ⟨_, rfl, two, fun l1 nl1 => ⟨two, fun T1 nT1 => ⟨(by decide), fun l2 nl2 => ⟨two, fun T2 nT2 => ⟨two, fun l3 nl3 => ⟨two, fun T3 nT3 => ⟨(by decide), fun l4 nl4 => ⟨two, fun T4 nT4 => ⟨(by show 4 ≤ sizeLine; decide), fun Dd nD => ?_⟩⟩⟩⟩⟩⟩⟩⟩⟩
    have a1 := same_upd (o := .lst [.str "a", .int 1]) nl1
    have b1 := same_upd (o := .tup [.str "insert", .ref l1]) nT1
    have a2 := same_upd (o := .lst [.bl true]) nl2
    have b2 := same_upd (o := .tup [.str "remove", .ref l2]) nT2
    have a3 := same_upd (o := .lst [.int 0, .non]) nl3
    have b3 := same_upd (o := .tup [.str "slice", .ref l3]) nT3
    have a4 := same_upd (o := .lst [.int 3]) nl4
    have b4 := same_upd (o := .tup [.str "extend", .ref l4]) nT4
    have zz := same_upd (o := .lst [.ref T1, .ref T2, .ref T3, .ref T4]) nD
    have all := a1.trans (b1.trans (a2.trans (b2.trans (a3.trans (b3.trans (a4.trans (b4.trans zz)))))))
    have f1 := (b1.trans (a2.trans (b2.trans (a3.trans (b3.trans (a4.trans (b4.trans zz))))))) l1 _ upd_same
    have g1 := (a2.trans (b2.trans (a3.trans (b3.trans (a4.trans (b4.trans zz)))))) T1 _ upd_same
    have f2 := (b2.trans (a3.trans (b3.trans (a4.trans (b4.trans zz))))) l2 _ upd_same
    have g2 := (a3.trans (b3.trans (a4.trans (b4.trans zz)))) T2 _ upd_same
    have f3 := (b3.trans (a4.trans (b4.trans zz))) l3 _ upd_same
    have g3 := (a4.trans (b4.trans zz)) T3 _ upd_same
    have f4 := (b4.trans zz) l4 _ upd_same
    have g4 := zz T4 _ upd_same
    have gD := upd_same (H := upd (upd (upd (upd (upd (upd (upd (upd H l1 (.lst [.str "a", .int 1])) T1 (.tup [.str "insert", .ref l1])) l2 (.lst [.bl true])) T2 (.tup [.str "remove", .ref l2])) l3 (.lst [.int 0, .non])) T3 (.tup [.str "slice", .ref l3])) l4 (.lst [.int 3])) T4 (.tup [.str "extend", .ref l4])) (a := Dd) (o := .lst [.ref T1, .ref T2, .ref T3, .ref T4])
    generalize upd (upd (upd (upd (upd (upd (upd (upd (upd H l1 _) T1 _) l2 _) T2 _) l3 _) T3 _) l4 _) T4 _) Dd _ = H0 at all f1 g1 f2 g2 f3 g3 f4 g4 gD ⊢
    clear a1 b1 a2 b2 a3 b3 a4 b4 zz
    have st0 := st.same all
    obtain ⟨xp, kp, hpp, _, _⟩ := id st0
    have nDp : Dd ≠ p := fun z => by rw [z, hpp] at gD; simp at gD
    refine ⟨a, p, Dd, ns, _, rfl, st0, gD, nDp, (by show 0 < 4; decide), (by show 4 ≤ 100; decide), fun H1 v hv k1 st1 => ?_⟩
    obtain ⟨b, T, l, us, rfl, hT, hl, hus⟩ : ∃ (b : Bd) (T l : Addr) (us : List V), v = .ref T ∧ H1 T = some (.tup [.str b.nm, .ref l]) ∧ H1 l = some (.lst us) ∧ Hs A H1 us b.args := by
      have tp : ∀ {b : Addr} {xs : List V}, H0 b = some (.tup xs) → b ≠ p := fun e z => by rw [z, hpp] at e; cases e
      simp only [List.mem_cons, List.not_mem_nil, or_false] at hv
      rcases hv with rfl | rfl | rfl | rfl
      · exact ⟨.insert, T1, l1, _, rfl, k1 _ _ g1 (tp g1), k1 _ _ f1 (fun z => by rw [z, hpp] at f1; simp at f1), rfl, rfl, trivial⟩
      · exact ⟨.remove, T2, l2, _, rfl, k1 _ _ g2 (tp g2), k1 _ _ f2 (fun z => by rw [z, hpp] at f2; simp at f2), rfl, trivial⟩
      · exact ⟨.slice, T3, l3, _, rfl, k1 _ _ g3 (tp g3), k1 _ _ f3 (fun z => by rw [z, hpp] at f3; simp at f3), rfl, rfl, trivial⟩
      · exact ⟨.extend, T4, l4, _, rfl, k1 _ _ g4 (tp g4), k1 _ _ f4 (fun z => by rw [z, hpp] at f4; simp at f4), rfl, trivial⟩
    have kH1 : Keep p H H1 := (My.Same.keep all).trans k1
    have hp1 := (hp.same all).keep k1 hpp np
    clear hv k1 gD g1 f1 g2 f2 g3 f3 g4 f4 hpp
    have hul := hus.len
    obtain ⟨kl1, kl2⟩ := b.klen
    refine ⟨T, _, rfl, SqT.of hT, rfl, ?_⟩
    refine ⟨_, _, rfl, _, _, rfl, rfl, ?_⟩
    refine ⟨_, rfl, _, rfl, _, rfl, sa, S, x, m, row, l, us, .bad b false, rfl, hp1, SqL.of hl, hus, hz, hb, ?_⟩
    refine Kl.t0 fun H2 t2 s2 ht2 => ?_
    refine ⟨two, fun T5 nT5 => ⟨_, _, ss_dpT (sqt_same (same_upd nT5) ht2.1), ss_dpT (SqT.of upd_same), ss_shape knd_ok.2.1 knd_ok.2.2, ss_shape knd_ok.2.1 knd_ok.2.2, _, rfl, ?_⟩⟩
    rw [eqv_ss, decide_eq_true rfl, decide_eq_true rfl]
    refine iteF ?_
    have s3 := s2.trans (same_upd (o := .tup [.str "KindError", .str "wrong argument"]) nT5)
    generalize upd H2 T5 _ = H3 at s3 ⊢
    have c3 := s3 _ _ hl
    have bl : b.args.length + 1 < 4 := by omega
    have sl := str_small (b.args.length + 1) (by omega)
    have l1 : ("expected 1 arguments, got " : Str).length = 26 ∧ ("expected 2 arguments, got " : Str).length = 26 := by decide +kernel
    have ek : ((us.length : Nat) : Int) + 1 = ((b.args.length + 1 : Nat) : Int) := by omega
    have lg : ((b.args.length + 1 : Nat) : Int).natAbs.log2 < 1920 := log_small _ (by omega)
    have inb : (if false = true then !inV (V.str b.nm) [V.str "insert", V.str "slice"] else inV (V.str b.nm) [V.str "insert", V.str "slice"]) = decide (b.kinds.length = 2) := by cases b <;> decide +kernel
    have kl3 : b.kinds.length = 1 ∨ b.kinds.length = 2 := by cases b <;> simp [Bd.kinds]
    refine ⟨_, rfl, l, us, rfl, .inl (SqL.of c3), _, _, rfl, rfl, ?_⟩
    refine ⟨_, congrArg (fun z => [V.int z]) ek, lg, _, _, rfl, rfl, Nat.le_trans (m := 100) (by omega) (by decide), two, fun T6 nT6 => ?_⟩
    rw [arM1]
    have s6 := same_upd (o := .tup [.str "ArityError", .str (arM 1 (b.args.length + 1))]) nT6
    have e6 : upd H3 T6 (.tup [.str "ArityError", .str (arM 1 (b.args.length + 1))]) T6 = some (.tup [.str "ArityError", .str (arM 1 (b.args.length + 1))]) := upd_same
    generalize upd H3 T6 _ = H36 at s6 e6 ⊢
    refine ⟨fun σ' H' => ∃ T8, σ' = [some (.ref sa.s), some (.ref p), some (.str b.nm), some (.ref l), some (.ref T8)] ∧ Same H3 H' ∧ H' T8 = some (.tup [.str "ArityError", .str (arM b.kinds.length (b.args.length + 1))]), ?_, ?_⟩
    · refine ⟨_, rfl, two, fun T7 nT7 => ⟨T7, _, rfl, .inr (SqT.of upd_same), rfl, rfl, _, rfl, ?_⟩⟩
      have s7 := same_upd (o := .tup [.str "insert", .str "slice"]) nT7
      generalize upd H36 T7 _ = H37 at s7 ⊢
      rw [inb]
      by_cases h2 : b.kinds.length = 2
      · rw [decide_eq_true h2]
        refine iteT ⟨_, rfl, l, us, rfl, .inl (SqL.of (s7 _ _ (s6 _ _ c3))), _, _, rfl, rfl, ?_⟩
        refine ⟨_, congrArg (fun z => [V.int z]) ek, lg, _, _, rfl, rfl, Nat.le_trans (m := 100) (by omega) (by decide), two, fun T8 nT8 => ⟨T8, rfl, s6.trans (s7.trans (same_upd nT8)), ?_⟩⟩
        rw [upd_same, arM2, h2]
      · rw [decide_eq_false h2]
        refine iteF ⟨T6, rfl, s6.trans s7, ?_⟩
        rw [s7 _ _ e6, show b.kinds.length = 1 by omega]
    rintro σ' H4 ⟨T8, rfl, s4, e8⟩
    have s14 : Same H1 H4 := s3.trans s4
    have c4 := s14 _ _ hl
    refine ⟨_, rfl, _, rfl, _, rfl, (by decide), fun l5 nl5 => ?_⟩
    have s5 := same_upd (o := .lst [.int 0]) nl5
    refine ⟨l, l5, us, [.int 0], rfl, rfl, s5 _ _ c4, upd_same, Nat.le_trans (m := 100) (by show us.length + 1 ≤ 100; omega) (by decide), fun l6 nl6 => ?_⟩
    have s6' := s5.trans (same_upd (o := .lst (us ++ [.int 0])) nl6)
    have e66 : upd (upd H4 l5 (.lst [.int 0])) l6 (.lst (us ++ [.int 0])) l6 = some (.lst (us ++ [.int 0])) := upd_same
    generalize upd (upd H4 l5 _) l6 _ = H6 at s6' e66 ⊢
    have s16 := s14.trans s6'
    refine ⟨sa, S, x, m, row, l6, us ++ [.int 0], .bad b true, rfl, hp1.same s16, SqL.of e66, ((hus.imp fun _ _ h => h.sv (Same.sv s16)).app (us := [.int 0]) (es := [.int 0]) ⟨rfl, trivial⟩ : Hs A H6 (us ++ [.int 0]) (b.args ++ [.int 0])), hz, hb, ?_⟩
    refine Kl.t1 fun H7 t7 s7 ht7 => ?_
    have as := ari_ok.2.2 b.kinds.length (by omega) (b.args.length + 1) (by omega)
    refine ⟨_, rfl, _, _, ss_dpT ht7.1, ss_dpT (SqT.of (s7 _ _ (s6' _ _ e8))), ss_shape ari_ok.2.1 as, ss_shape ari_ok.2.1 as, _, rfl, ?_⟩
    rw [eqv_ss, decide_eq_true rfl, decide_eq_true rfl]
    refine iteF ?_
    have s17 := s16.trans s7
    have k17 : Keep p H H7 := kH1.trans (My.Same.keep s17)
    have st7 := st1.same s17
    refine ⟨_, rfl, (by show 5 ≤ sizeLine; decide), fun T9 nT9 => ?_⟩
    have s9 := same_upd (o := .tup [.str "keys", .str "upper", .str "pushed", .str "", .str "size"]) nT9
    obtain ⟨xq, kq, hq7, _, _⟩ := id (st7.same s9)
    refine ⟨a, p, T9, ns, _, rfl, st7.same s9, SqT.of upd_same, (by show 0 < 5; decide), (by show 5 ≤ 100; decide), fun H8 v hv k8 st8 => ?_⟩
    obtain ⟨z, hz9, rfl⟩ : ∃ z ∈ missN, v = .str z := by
      simp only [List.mem_cons, List.not_mem_nil, or_false] at hv
      rcases hv with rfl | rfl | rfl | rfl | rfl
      · exact ⟨"keys", by decide +kernel, rfl⟩
      · exact ⟨"upper", by decide +kernel, rfl⟩
      · exact ⟨"pushed", by decide +kernel, rfl⟩
      · exact ⟨"", by decide +kernel, rfl⟩
      · exact ⟨"size", by decide +kernel, rfl⟩
    have s19 := s17.trans s9
    have hp8 := (hp1.same s19).keep k8 hq7 np
    have sv8 := Keep.sv k8 hq7
    have hl8 : H8 l = some (.lst us) := k8 _ _ (s19 _ _ hl) fun z => by
      have := s19 _ _ hl
      rw [z, hq7] at this
      injection this with this
      injection this with this
      have hl2 := congrArg List.length this
      simp at hl2
      omega
    have zl : ∀ z ∈ missN, ("list has no field " : Str).length + z.length ≤ 100 ∧ PyData.strOk (("list" : Str) ++ (" has no field " : Str) ++ z) = true := by decide +kernel
    obtain ⟨zl1, zl2⟩ := zl z hz9
    refine ⟨_, rfl, _, rfl, _, rfl, sa, S, x, m, row, l, us, .miss b z, rfl, hp8, SqL.of hl8, (hus.imp fun _ _ h => (h.sv (Same.sv s19)).sv sv8 : Hs A H8 us b.args), hz, hb, ?_⟩
    refine Kl.t2 hz9 fun H9 t9 s99 ht9 => ?_
    refine ⟨_, rfl, _, _, rfl, rfl, Nat.le_trans (m := 100) zl1 (by decide), two, fun Tx nTx => ?_⟩
    rw [fldS]
    refine ⟨_, _, ss_dpT (sqt_same (same_upd nTx) ht9.1), ss_dpT (SqT.of upd_same), ss_shape fld_ok.2.1 zl2, ss_shape fld_ok.2.1 zl2, ?_⟩
    rw [eqv_ss, decide_eq_true rfl, decide_eq_true rfl]
    have sx := s99.trans (same_upd (o := .tup [.str "FieldError", .str (("list" : Str) ++ (" has no field " : Str) ++ z)]) nTx)
    exact q _ (((k17.trans (My.Same.keep s9)).trans k8).trans (My.Same.keep sx)) (st8.same sx)
end
end My
namespace My
open PySem L2 SX XT XS XE XD XL XZ
open C8 (pss_cut tCut cutS_slice pe_gc)
/-- a op1 b op2 c op3 d, as a test -/
def tChain3 (r1 r2 r3 : R2) (ta tb tc td : L2.TE) : TT := fun σ H Q => ta σ H fun x H1 => tb σ H1 fun y H2 => r1 x y H2 fun z H3 => ∃ k, z = .bl k ∧
  (if k = true then tc σ H3 fun u H4 => r2 y u H4 fun z' H5 => ∃ k', z' = .bl k' ∧ (if k' = true then td σ H5 fun t H6 => r3 u t H6 fun z2 H7 => ∃ k2, z2 = .bl k2 ∧ Q k2 H7 else Q false H5) else Q false H3)
open PySem.Spec PyProof.Rows in
theorem pt_chain3 {X : Cx} {a b c d : Expr} {ta tb tc td : L2.TE} {pos : Pos} {op1 op2 op3 : CmpOp} {r1 r2 r3 : R2} (ho1 : OpR X (compareOp op1) r1) (ho2 : OpR X (compareOp op2) r2) (ho3 : OpR X (compareOp op3) r3) (ha : PE X a ta) (hb : PE X b tb) (hc : PE X c tc) (hd : PE X d td)
    (hm : lastMarks [op1, op2, op3] [b, c, d] = false := by with_unfolding_all rfl) : PT X (.Compare a [op1, op2, op3] [b, c, d] pos) (tChain3 r1 r2 r3 ta tb tc td) := by
  refine ⟨fun pins s σ H Q I h => ?_⟩
  refine isTrue_chain (thn (ha.run pins s σ H _ I h) fun v s1 ⟨x, H1, I1, g1, q1⟩ => test_link (thn (hb.run pins s1 σ H1 _ I1 q1) fun u s2 ⟨y, H2, I2, g2, q2⟩ =>
    thn (ho1 pins s2 σ H2 x y v u _ I2 g1 g2 q2) fun d s3 ⟨z, H3, I3, g3, k, e, q3⟩ => ?_)) hm
  subst e
  cases g3
  refine wpAny_truthy_bool ?_
  cases k with
  | false => exact ite_ff ⟨H3, I3, q3⟩
  | true =>
    refine ite_tt (test_link (thn (hc.run pins s3 σ H3 _ I3 q3) fun u4 s4 ⟨y4, H4, I4, g4, q4⟩ => thn (ho2 pins s4 σ H4 y y4 u u4 _ I4 g2 g4 q4) fun d5 s5 ⟨z5, H5, I5, g5, k5, e5, q5⟩ => ?_))
    subst e5
    cases g5
    refine wpAny_truthy_bool ?_
    cases k5 with
    | false => exact ite_ff ⟨H5, I5, q5⟩
    | true =>
      refine ite_tt (test_last (thn (hd.run pins s5 σ H5 _ I5 q5) fun u6 s6 ⟨y6, H6, I6, g6, q6⟩ => thn (ho3 pins s6 σ H6 y4 y6 u4 u6 _ I6 g4 g6 q6) fun d7 s7 ⟨z7, H7, I7, g7, k7, e7, q7⟩ => ?_))
      subst e7
      cases g7
      exact wpAny_truthy_bool ⟨H7, I7, q7⟩
/-- the written dict of the law's step -/
theorem merge4 (a b c d : V) : mergeK [] [((.inr "push" : Key), a), (.inr "insert", b), (.inr "pop", c), (.inr "remove", d)] = [((.inr "push" : Key), a), (.inr "insert", b), (.inr "pop", c), (.inr "remove", d)] := by
  have h1 : ¬ ((.inr "push" : Key) = .inr "insert") := by decide +kernel
  have h2 : ¬ ((.inr "push" : Key) = .inr "pop") := by decide +kernel
  have h3 : ¬ ((.inr "push" : Key) = .inr "remove") := by decide +kernel
  have h4 : ¬ ((.inr "insert" : Key) = .inr "pop") := by decide +kernel
  have h5 : ¬ ((.inr "insert" : Key) = .inr "remove") := by decide +kernel
  have h6 : ¬ ((.inr "pop" : Key) = .inr "remove") := by decide +kernel
  unfold mergeK
  simp [putK, h1, h2, h3, h4, h5, h6]
theorem get4 (a b c d : V) : valV [((.inr "push" : Key), a), (.inr "insert", b), (.inr "pop", c), (.inr "remove", d)] (.inr "push") = some a ∧ valV [((.inr "push" : Key), a), (.inr "insert", b), (.inr "pop", c), (.inr "remove", d)] (.inr "insert") = some b ∧
    valV [((.inr "push" : Key), a), (.inr "insert", b), (.inr "pop", c), (.inr "remove", d)] (.inr "pop") = some c ∧ valV [((.inr "push" : Key), a), (.inr "insert", b), (.inr "pop", c), (.inr "remove", d)] (.inr "remove") = some d := by
  have h1 : ¬ ((.inr "push" : Key) = .inr "insert") := by decide +kernel
  have h2 : ¬ ((.inr "push" : Key) = .inr "pop") := by decide +kernel
  have h3 : ¬ ((.inr "push" : Key) = .inr "remove") := by decide +kernel
  have h4 : ¬ ((.inr "insert" : Key) = .inr "pop") := by decide +kernel
  have h5 : ¬ ((.inr "insert" : Key) = .inr "remove") := by decide +kernel
  have h6 : ¬ ((.inr "pop" : Key) = .inr "remove") := by decide +kernel
  refine ⟨?_, ?_, ?_, ?_⟩ <;> simp [valV, List.find?, h1, h2, h3, h4, h5, h6]
section
variable {P : Program} {w : World} {K : PySem.W.Frag} {mg : Str → Option Value} {base : Heap} {A : Ads}
theorem StL.ofK {H7 H : Hp} {a p : Addr} {ns : List Int} {x k : Int} (st7 : StL K H7 a p ns) (kk : Keep p H7 H) (hp : H p = some (.lst [.int x, .int k, .ref a])) (h0 : 0 ≤ k) : StL K H a p ns := by
  obtain ⟨x7, k7, h7, _, hs⟩ := st7
  exact ⟨x, k, hp, h0, sql_keep kk h7 hs⟩
/-- the law's draws and a store beside them -/
structure LI (P : Program) (w : World) (K : PySem.W.Frag) (A : Ads) (a p : Addr) (ns : List Int) (H7 H : Hp) (sa : Sa) (S : St) : Prop where
  st7 : StL K H7 a p ns
  k7 : Keep p H7 H
  st : StL K H a p ns
  sm : SM P w A H sa S
  fr : ∀ b, sa.own b → H7 b = none
variable {a p : Addr} {ns : List Int} {H7 H H' : Hp} {sa sa' : Sa} {S S' : St}
theorem LI.np (L : LI P w K A a p ns H7 H sa S) : ¬ sa.own p := fun z => by
  obtain ⟨x, k, h, _⟩ := L.st7
  rw [L.fr p z] at h
  cases h
theorem LI.hp (L : LI P w K A a p ns H7 H sa S) : ∃ xs, H p = some (.lst xs) := by
  obtain ⟨x, k, h, _⟩ := L.st
  exact ⟨_, h⟩
theorem LI.draw (L : LI P w K A a p ns H7 H sa S) (k : Keep p H H') (st : StL K H' a p ns) : LI P w K A a p ns H7 H' sa S := by
  obtain ⟨xs, hp⟩ := L.hp
  exact ⟨L.st7, L.k7.trans k, st, L.sm.keep k hp L.np, L.fr⟩
theorem LI.sv (L : LI P w K A a p ns H7 H sa S) (k : Keep p H H') : Sv H H' := by
  obtain ⟨xs, hp⟩ := L.hp
  exact Keep.sv k hp
theorem LI.same (L : LI P w K A a p ns H7 H sa S) (s : Same H H') : LI P w K A a p ns H7 H' sa S := L.draw (My.Same.keep s) (L.st.same s)
theorem LI.ev (L : LI P w K A a p ns H7 H sa S) (e : Ev sa sa' H H') (sm : SM P w A H' sa' S') : LI P w K A a p ns H7 H' sa' S' := by
  obtain ⟨x, k, hp, h0, _⟩ := L.st
  have kk : Keep p H7 H' := fun b u h n => e.fr _ _ (L.k7 _ _ h n) fun z => by rw [L.fr b z] at h; cases h
  refine ⟨L.st7, kk, L.st7.ofK kk (e.fr _ _ hp L.np) h0, sm, fun b z => ?_⟩
  rcases e.gw b z with q | q
  · exact L.fr b q
  · cases h : H7 b with
    | none => rfl
    | some u =>
      by_cases hb : b = p
      · rw [hb, hp] at q; cases q
      · rw [L.k7 _ _ h hb] at q; cases q

theorem LI.h7 (L : LI P w K A a p ns H7 H sa S) {D : Addr} (n : H D = none) : H7 D = none := by
  cases h : H7 D with
  | none => rfl
  | some u =>
    by_cases hb : D = p
    · obtain ⟨xs, hp⟩ := L.hp
      rw [hb, hp] at n; cases n
    · rw [L.k7 _ _ h hb] at n; cases n
theorem LI.lst (L : LI P w K A a p ns H7 H sa S) {D : Addr} {xs ys : List V} (hD : H D = some (.lst xs)) (h7 : H7 D = none) (nd : ¬ sa.own D) (hp : D ≠ p) : LI P w K A a p ns H7 (upd H D (.lst ys)) sa S ∧ Sv H (upd H D (.lst ys)) := by
  have sv : Sv H (upd H D (.lst ys)) := fun b u e n => by
    rw [upd_ne fun z => by rw [z, hD] at e; exact n _ (Option.some.inj e).symm]
    exact e
  have kk : Keep p H7 (upd H D (.lst ys)) := fun b u e n => by rw [upd_ne (ne_of_none e h7)]; exact L.k7 _ _ e n
  obtain ⟨x, k, h1, h0, _⟩ := L.st
  exact ⟨⟨L.st7, kk, L.st7.ofK kk (by rw [upd_ne hp.symm]; exact h1) h0, L.sm.keep keep_upd hD nd, L.fr⟩, sv⟩

/-- the law between two steps: its store with the list es, its own row ds -/
structure LR (P : Program) (w : World) (K : PySem.W.Frag) (A : Ads) (a p : Addr) (ns : List Int) (H7 H : Hp) (sa : Sa) (S : St) (x m r : Addr) (us : List V) (ds es : List Dv) : Prop where
  I : LI P w K A a p ns H7 H sa S
  pt : Pt P w A H sa S 1 x m es
  hr : H r = some (.lst us)
  hs : Hs A H us ds
  h7 : H7 r = none
  nr : ¬ sa.own r
  np : r ≠ p
  two : 2 ≤ S.things.length
variable {x m m' r : Addr} {us us' : List V} {ds es ds' es' : List Dv}
theorem LR.draw (L : LR P w K A a p ns H7 H sa S x m r us ds es) (k : Keep p H H') (st : StL K H' a p ns) : LR P w K A a p ns H7 H' sa S x m r us ds es := by
  obtain ⟨xs, hp⟩ := L.I.hp
  exact ⟨L.I.draw k st, L.pt.keep k hp L.I.np, k _ _ L.hr L.np, L.hs.imp fun _ _ h => h.sv (L.I.sv k), L.h7, L.nr, L.np, L.two⟩
theorem LR.same (L : LR P w K A a p ns H7 H sa S x m r us ds es) (s : Same H H') : LR P w K A a p ns H7 H' sa S x m r us ds es := L.draw (My.Same.keep s) (L.I.st.same s)
theorem LR.ev {x' : Addr} (Lb : Lib P K mg A) (L : LR P w K A a p ns H7 H sa S x m r us ds es) (e : Ev sa sa' H H') (pt : Pt P w A H' sa' S' 1 x' m' es') (two : 2 ≤ S'.things.length) : LR P w K A a p ns H7 H' sa' S' x' m' r us ds es' :=
  ⟨L.I.ev e pt.sm, pt, e.fr _ _ L.hr L.nr, L.hs.imp fun _ _ h => (e.fr.vk Lb L.pt.sm).v _ _ h, L.h7, e.nin L.hr L.nr, L.np, two⟩
theorem LR.row (L : LR P w K A a p ns H7 H sa S x m r us ds es) (k : Keep r H H') (hr : H' r = some (.lst us')) (hs : Hs A H' us' ds') : LR P w K A a p ns H7 H' sa S x m r us' ds' es := by
  have hp := L.I.hp
  obtain ⟨xs, hp⟩ := hp
  obtain ⟨xi, ki, h1, h0, h2⟩ := id L.I.st
  have kk : Keep p H7 H' := fun b u e n => k _ _ (L.I.k7 _ _ e n) fun z => by rw [z, L.h7] at e; cases e
  exact ⟨⟨L.I.st7, kk, L.I.st7.ofK kk (k _ _ h1 L.np.symm) h0, L.pt.sm.keep k L.hr L.nr, L.I.fr⟩, L.pt.keep k L.hr L.nr, hr, hs, L.h7, L.nr, L.np, L.two⟩
theorem Cl.le {c : Cl} {ds es : List Dv} {d : Dv} (h : ds.length ≤ 1000) (e : c.res ds = .val d es) : es.length ≤ 1000 := by
  cases c with
  | push d0 =>
    by_cases h1 : ds.length < 1000
    · have : (Cl.push d0).res ds = .val .non (ds ++ [d0]) := if_pos h1
      rw [this] at e
      injection e with _ e
      rw [← e, List.length_append, List.length_singleton]
      omega
    · have : (Cl.push d0).res ds = .err "SizeError" "too large" := if_neg h1
      rw [this] at e
      cases e
  | insert i d0 =>
    by_cases h0 : 0 ≤ i ∧ i ≤ ds.length
    · by_cases h1 : ds.length < 1000
      · have : (Cl.insert i d0).res ds = .val .non (ds.take i.toNat ++ [d0] ++ ds.drop i.toNat) := by
          show (if _ then _ else _) = _
          rw [if_pos h0, if_pos h1]
        rw [this] at e
        injection e with _ e
        rw [← e, List.length_append, List.length_append, List.length_take, List.length_drop, List.length_singleton]
        omega
      · have : (Cl.insert i d0).res ds = .err "SizeError" "too large" := by
          show (if _ then _ else _) = _
          rw [if_pos h0, if_neg h1]
        rw [this] at e
        cases e
    · have : (Cl.insert i d0).res ds = .err "IndexError" "index out of range" := if_neg h0
      rw [this] at e
      cases e
  | pop =>
    by_cases h0 : ds = []
    · have : Cl.pop.res ds = .err "IndexError" "index out of range" := if_pos h0
      rw [this] at e
      cases e
    · have : Cl.pop.res ds = .val (ds.getLast?.getD .non) ds.dropLast := if_neg h0
      rw [this] at e
      injection e with _ e
      rw [← e, List.length_dropLast]
      omega
  | remove i =>
    by_cases h0 : 0 ≤ i ∧ i < ds.length
    · have : (Cl.remove i).res ds = .val (ds[i.toNat]?.getD .non) (ds.eraseIdx i.toNat) := if_pos h0
      rw [this] at e
      injection e with _ e
      rw [← e]
      exact Nat.le_trans (List.length_eraseIdx_le _ _) h
    · have : (Cl.remove i).res ds = .err "IndexError" "index out of range" := if_neg h0
      rw [this] at e
      cases e
  | slice i j =>
    by_cases h0 : 0 ≤ i ∧ i ≤ j ∧ j ≤ ds.length
    · have : (Cl.slice i j).res ds = .new ((ds.take j.toNat).drop i.toNat) := if_pos h0
      rw [this] at e
      cases e
    · have : (Cl.slice i j).res ds = .err "IndexError" "index out of range" := if_neg h0
      rw [this] at e
      cases e
  | reverse =>
    have e : Rs.val .non ds.reverse = .val d es := e
    injection e with _ e
    rw [← e, List.length_reverse]
    exact h
  | copy => cases e
  | length => injection e with _ e; rw [← e]; exact h
  | contains d0 => injection e with _ e; rw [← e]; exact h
  | find d0 => injection e with _ e; rw [← e]; exact h
  | count d0 => injection e with _ e; rw [← e]; exact h
end
end My
namespace My
open PySem L2 SX XT XS XE XD XL XZ
open C8 (pss_cut tCut cutS_slice pe_gc)
section
variable {P : Program} {w : World} {K : PySem.W.Frag} {mg : Str → Option Value} {base : Heap} {A : Ads}
theorem TlAt.keep {H H' : Hp} {t r : Addr} {us us' : List V} (hr : H r = some (.lst us)) (k : Keep r H H') (hr' : H' r = some (.lst us')) : ∀ {q : Tl}, TlAt K A H t q → TlAt K A H' t q
  | .told _, ⟨v, h1, h2⟩ => ⟨v, sqt_keep k hr h1, h2.sv (keepsv hr k hr')⟩
  | .err _ _, ⟨h1, h2⟩ => ⟨sqt_keep k hr h1, h2⟩
theorem chg_new {i : Int} {d : Dv} {c : Cl} (h : c ∈ chgs i d) {ds es : List Dv} : c.res ds ≠ .new es := by
  simp only [chgs, List.mem_cons, List.not_mem_nil, or_false] at h
  rcases h with rfl | rfl | rfl | rfl
  · show (if _ then _ else _) ≠ _
    split <;> nofun
  · show (if _ then _ else _) ≠ _
    split
    · split <;> nofun
    · nofun
  · show (if _ then _ else _) ≠ _
    split <;> nofun
  · show (if _ then _ else _) ≠ _
    split <;> nofun
theorem chg_err {i : Int} {d : Dv} {c : Cl} (h : c ∈ chgs i d) {ds : List Dv} {k m : Str} (e : c.res ds = .err k m) : k ≠ "told" ∧ PyData.strOk k = true ∧ PyData.strOk m = true := by
  simp only [chgs, List.mem_cons, List.not_mem_nil, or_false] at h
  rcases h with rfl | rfl | rfl | rfl
  · revert e
    show (if _ then _ else _) = _ → _
    split
    · nofun
    · intro e; cases e; exact siz_ok
  · revert e
    show (if _ then _ else _) = _ → _
    split
    · split
      · nofun
      · intro e; cases e; exact siz_ok
    · intro e; cases e; exact idx_ok
  · revert e
    show (if _ then _ else _) = _ → _
    split
    · intro e; cases e; exact idx_ok
    · nofun
  · revert e
    show (if _ then _ else _) = _ → _
    split
    · nofun
    · intro e; cases e; exact idx_ok
theorem fnd_res {d : Dv} {c : Cl} (h : c ∈ fnds d) (ds : List Dv) : c.res ds = .val (rv ds c) ds := by
  simp only [fnds, List.mem_cons, List.not_mem_nil, or_false] at h
  rcases h with rfl | rfl | rfl <;> rfl
theorem val_ok {S : St} {d : Dv} (h : d ∈ valD) (two : 2 ≤ S.things.length) : okV S d := by
  simp only [valD, List.mem_cons, List.not_mem_nil, or_false] at h
  rcases h with rfl | rfl | rfl | rfl | rfl | rfl | rfl | rfl | rfl | rfl | rfl | rfl <;> first | trivial | (show _ < _; omega)
def spStep (P : Program) (w : World) (K : PySem.W.Frag) (A : Ads) : Sp := fun vs H Q _ => ∃ (a p : Addr) (ns : List Int) (H7 : Hp) (sa : Sa) (S : St) (x m r : Addr) (us : List V) (ds : List Dv), vs = [.ref sa.s, .ref r, .ref p] ∧ LR P w K A a p ns H7 H sa S x m r us ds ds ∧ ds.length ≤ 1000 ∧ S.things.length < 90000 ∧
  ∀ H' sa' S' x' m' us' ds', LR P w K A a p ns H7 H' sa' S' x' m' r us' ds' ds' → sa'.s = sa.s → S'.things.length ≤ S.things.length + 1 → ds'.length ≤ 1000 → Q (.bl true) H'
theorem put_len (S : St) (n : Nat) (ds : List Dv) : (S.put n ds).things.length = S.things.length := List.length_set
theorem ok_law_step (L : Lib P K mg A) (D : Fd w L) : FnOk P w K mg base CX0 11 L.law_step.f L.law_step.fd ["store", "row", "state"] (spStep P w K A) := by
  have G_law_draw : FnOk P w K mg base CX0 2 L.law_draw.f L.law_draw.fd ["state", "many"] (spDraw K) := ok_law_draw L
  have G_law_pick : FnOk P w K mg base CX0 3 L.law_pick.f L.law_pick.fd ["state", "row"] (spPick K) := ok_law_pick L
  have G_law_value : FnOk P w K mg base CX0 4 L.law_value.f L.law_value.fd ["state"] (spVal K A) := ok_law_value L
  have G_law_call : FnOk P w K mg base CX0 9 L.law_call.f L.law_call.fd ["store", "name", "values"] (spLCall P w K A) := ok_law_call L D
  have G_law_item : FnOk P w K mg base CX0 6 L.law_item.f L.law_item.fd ["store", "deed", "i", "value"] (spLItem P w K A) := ok_law_item L
  have G_law_change : FnOk P w K mg base CX0 1 L.law_change.f L.law_change.fd ["row", "name", "i", "value"] (spChg K A) := ok_law_change L
  have G_law_found : FnOk P w K mg base CX0 4 L.law_found.f L.law_found.fd ["row", "name", "value"] (spFnd K A) := ok_law_found L
  have G_law_equal : FnOk P w K mg base CX0 3 L.law_equal.f L.law_equal.fd ["told", "due"] (spLEq K A) := ok_law_equal L
  have G_law_new : FnOk P w K mg base CX0 4 L.law_new.f L.law_new.fd ["store", "told", "due"] (spNew P w K A) := ok_law_new L
  have G_law_elements : FnOk P w K mg base CX0 3 L.law_elements.f L.law_elements.fd ["store", "row", "i", "value", "told"] (spElm P w K A) := ok_law_elements L
  have G_law_wrong : FnOk P w K mg base CX0 10 L.law_wrong.f L.law_wrong.fd ["store", "state"] (spWrong P w K A) := ok_law_wrong L D
  refine L.law_step.F.ok sc_law_step (fun vs H Q E h => ?_) (fun cdv A' outer s H vs Q E hr h => ?_)
  · obtain ⟨a, p, ns, H7, sa, S, x, m, r, us, ds, rfl, _⟩ := h
    rfl
  · obtain ⟨a, p, ns, H7, sa, S, x, m, r, us, ds, rfl, LR0, le, bd, q⟩ := h
    have hu : (A'.deeper (PyProof.Rows.envOfC ("_law_step" : Str) (defScope s_law_step) s.heap.objs.size L.law_step.f cdv)).units + 1 < cLine := by
      have := units64 hr
      omega
    have two : 2 ≤ sizeLine := by decide
    have one : 1 ≤ sizeLine := by decide
    have hul := LR0.hs.len
    refine ⟨_, (pss_cons (ps_set (i := 3) sc_law_step.nd rfl (.inl rfl) (pe_op op_sub (pe_call G_law_draw (hr.mono (by omega)) (by rfl) L.law_draw.g L.law_draw.F.kp L.law_draw.b .nil pass0 (pa_cons (pv 2) (pa_cons (pe_op op_add (pe_callB call_len_seq (by rfl) L.z_len PySem.boot_len (pa_cons (pv 1) pa_nil)) pe_int) pa_nil))) pe_int))
      (pss_cons (ps_set (i := 4) sc_law_step.nd rfl (.inl rfl) (pe_call G_law_value (hr.mono (by omega)) (by rfl) L.law_value.g L.law_value.F.kp L.law_value.b .nil pass0 (pa_cons (pv 2) pa_nil)))
      (pss_cons (ps_set (i := 5) sc_law_step.nd rfl (.inl rfl) (pe_call G_law_draw (hr.mono (by omega)) (by rfl) L.law_draw.g L.law_draw.F.kp L.law_draw.b .nil pass0 (pa_cons (pv 2) (pa_cons pe_int pa_nil))))
      (pss_cons (ps_set (i := 6) sc_law_step.nd rfl (.inl rfl) (pe_callB call_len_seq (by rfl) L.z_len PySem.boot_len (pa_cons (pe_fld (pv 0) rfl) pa_nil)))
      (pss_cons (ps_if (pt_cmpR op_lt (pv 5) pe_int (nomark _))
        (pss_cons (ps_set (i := 7) sc_law_step.nd rfl (.inl rfl) (pe_call G_law_pick (hr.mono (by omega)) (by rfl) L.law_pick.g L.law_pick.F.kp L.law_pick.b .nil pass0 (pa_cons (pv 2) (pa_cons (pe_tup (pa_cons pe_str (pa_cons pe_str (pa_cons pe_str (pa_cons pe_str pa_nil))))) pa_nil))))
      (pss_cons (ps_set (i := 8) sc_law_step.nd rfl (.inl rfl) (pe_dget hu (pe_disp (pps_cons pe_str (pe_lst (pa_cons (pv 4) pa_nil)) (pps_cons pe_str (pe_lst (pa_cons (pv 3) (pa_cons (pv 4) pa_nil))) (pps_cons pe_str (pe_lst pa_nil) (pps_cons pe_str (pe_lst (pa_cons (pv 3) pa_nil)) pps_nil)))) rfl rfl (by decide) (by decide)) (pv 7) (fun _ _ => rfl)))
      (pss_one (ps_ret (pe_call G_law_equal (hr.mono (by omega)) (by rfl) L.law_equal.g L.law_equal.F.kp L.law_equal.b .nil pass0 (pa_cons (pe_call G_law_call (hr.mono (by omega)) (by rfl) L.law_call.g L.law_call.F.kp L.law_call.b .nil pass0 (pa_cons (pv 0) (pa_cons (pv 7) (pa_cons (pv 8) pa_nil)))) (pa_cons (pe_call G_law_change (hr.mono (by omega)) (by rfl) L.law_change.g L.law_change.F.kp L.law_change.b .nil pass0 (pa_cons (pv 1) (pa_cons (pv 7) (pa_cons (pv 3) (pa_cons (pv 4) pa_nil))))) pa_nil)))))))
        pss_nil)
      (pss_cons (ps_if (pt_cmpR op_lt (pv 5) pe_int (nomark _))
        (pss_cons (ps_set (i := 7) sc_law_step.nd rfl (.inl rfl) (pe_call G_law_pick (hr.mono (by omega)) (by rfl) L.law_pick.g L.law_pick.F.kp L.law_pick.b .nil pass0 (pa_cons (pv 2) (pa_cons (pe_tup (pa_cons pe_str (pa_cons pe_str (pa_cons pe_str pa_nil)))) pa_nil))))
      (pss_one (ps_ret (pe_call G_law_equal (hr.mono (by omega)) (by rfl) L.law_equal.g L.law_equal.F.kp L.law_equal.b .nil pass0 (pa_cons (pe_call G_law_call (hr.mono (by omega)) (by rfl) L.law_call.g L.law_call.F.kp L.law_call.b .nil pass0 (pa_cons (pv 0) (pa_cons (pv 7) (pa_cons (pe_lst (pa_cons (pv 4) pa_nil)) pa_nil)))) (pa_cons (pe_call G_law_found (hr.mono (by omega)) (by rfl) L.law_found.g L.law_found.F.kp L.law_found.b .nil pass0 (pa_cons (pv 1) (pa_cons (pv 7) (pa_cons (pv 4) pa_nil)))) pa_nil))))))
        pss_nil)
      (pss_cons (ps_if (pt_cmpR op_eq (pv 5) pe_int (nomark _))
        (pss_cons (ps_expr (pe_bm0 PySem.F.plainAttrs_list PySem.F.slot_list_reverse PySem.F.type_list_reverse mt_reverse (pv 1)))
      (pss_one (ps_ret (pe_call G_law_equal (hr.mono (by omega)) (by rfl) L.law_equal.g L.law_equal.F.kp L.law_equal.b .nil pass0 (pa_cons (pe_call G_law_call (hr.mono (by omega)) (by rfl) L.law_call.g L.law_call.F.kp L.law_call.b .nil pass0 (pa_cons (pv 0) (pa_cons pe_str (pa_cons (pe_lst pa_nil) pa_nil)))) (pa_cons (pe_tup (pa_cons pe_str (pa_cons pe_non pa_nil))) pa_nil))))))
        pss_nil)
      (pss_cons (ps_if (pt_cmpR op_eq (pv 5) pe_int (nomark _))
        (pss_cons (ps_set (i := 9) sc_law_step.nd rfl (.inl rfl) (pe_op op_sub (pe_call G_law_draw (hr.mono (by omega)) (by rfl) L.law_draw.g L.law_draw.F.kp L.law_draw.b .nil pass0 (pa_cons (pv 2) (pa_cons (pe_op op_add (pe_callB call_len_seq (by rfl) L.z_len PySem.boot_len (pa_cons (pv 1) pa_nil)) pe_int) pa_nil))) pe_int))
      (pss_cons (ps_set (i := 10) sc_law_step.nd rfl (.inl rfl) (pe_call G_law_call (hr.mono (by omega)) (by rfl) L.law_call.g L.law_call.F.kp L.law_call.b .nil pass0 (pa_cons (pv 0) (pa_cons pe_str (pa_cons (pe_lst (pa_cons (pv 3) (pa_cons (pv 9) pa_nil))) pa_nil)))))
      (pss_cons (ps_if (pt_not (pt_chain3 op_le op_le op_le pe_int (pv 3) (pv 9) (pe_callB call_len_seq (by rfl) L.z_len PySem.boot_len (pa_cons (pv 1) pa_nil))))
        (pss_one (ps_ret (pe_and (pe_cmpR (op_eqD (units64 hr)) (pv 10) (pe_tup (pa_cons pe_str (pa_cons pe_str pa_nil))) (nomark _)) (pe_one (pe_cmpR op_eq (pe_callB call_len_seq (by rfl) L.z_len PySem.boot_len (pa_cons (pe_fld (pv 0) rfl) pa_nil)) (pv 6) (nomark _))))))
        pss_nil)
      (pss_one (ps_ret (pe_call G_law_new (hr.mono (by omega)) (by rfl) L.law_new.g L.law_new.F.kp L.law_new.b .nil pass0 (pa_cons (pv 0) (pa_cons (pv 10) (pa_cons (pe_slice sl_list (pv 1) (po_some (pv 3)) (po_some (pv 9))) pa_nil)))))))))
        pss_nil)
      (pss_cons (ps_if (pt_cmpR op_eq (pv 5) pe_int (nomark _))
        (pss_one (ps_ret (pe_call G_law_new (hr.mono (by omega)) (by rfl) L.law_new.g L.law_new.F.kp L.law_new.b .nil pass0 (pa_cons (pv 0) (pa_cons (pe_call G_law_call (hr.mono (by omega)) (by rfl) L.law_call.g L.law_call.F.kp L.law_call.b .nil pass0 (pa_cons (pv 0) (pa_cons pe_str (pa_cons (pe_lst pa_nil) pa_nil)))) (pa_cons (pv 1) pa_nil))))))
        pss_nil)
      (pss_cons (ps_if (pt_cmpR op_eq (pv 5) pe_int (nomark _))
        (pss_cons (ps_set (i := 10) sc_law_step.nd rfl (.inl rfl) (pe_call G_law_item (hr.mono (by omega)) (by rfl) L.law_item.g L.law_item.F.kp L.law_item.b .nil pass0 (pa_cons (pv 0) (pa_cons (pe_call G_law_pick (hr.mono (by omega)) (by rfl) L.law_pick.g L.law_pick.F.kp L.law_pick.b .nil pass0 (pa_cons (pv 2) (pa_cons (pe_tup (pa_cons pe_str (pa_cons pe_str pa_nil))) pa_nil))) (pa_cons (pv 3) (pa_cons (pv 4) pa_nil))))))
      (pss_one (ps_ret (pe_call G_law_elements (hr.mono (by omega)) (by rfl) L.law_elements.g L.law_elements.F.kp L.law_elements.b .nil pass0 (pa_cons (pv 0) (pa_cons (pv 1) (pa_cons (pv 3) (pa_cons (pv 4) (pa_cons (pv 10) pa_nil)))))))))
        pss_nil)
      (pss_cons (ps_if (pt_cmpR op_eq (pv 5) pe_int (nomark _))
        (pss_one (ps_ret (pe_call G_law_wrong (hr.mono (by omega)) (by rfl) L.law_wrong.g L.law_wrong.F.kp L.law_wrong.b .nil pass0 (pa_cons (pv 0) (pa_cons (pv 2) pa_nil)))))
        pss_nil)
      (pss_one (ps_ret (pe_call G_law_equal (hr.mono (by omega)) (by rfl) L.law_equal.g L.law_equal.F.kp L.law_equal.b .nil pass0 (pa_cons (pe_call G_law_call (hr.mono (by omega)) (by rfl) L.law_call.g L.law_call.F.kp L.law_call.b .nil pass0 (pa_cons (pv 0) (pa_cons pe_str (pa_cons (pe_lst pa_nil) pa_nil)))) (pa_cons (pe_tup (pa_cons pe_str (pa_cons (pe_callB call_len_seq (by rfl) L.z_len PySem.boot_len (pa_cons (pv 1) pa_nil)) pa_nil))) pa_nil)))))))))))))))), ?_⟩
    refine ⟨_, rfl, _, rfl, r, us, rfl, .inl (SqL.of LR0.hr), _, _, rfl, rfl, a, p, ns, _, rfl, LR0.I.st, by omega, by omega, fun H1 i0 k1 st1 _ i1 => ⟨_, _, rfl, rfl, ?_⟩⟩
    have LR1 := LR0.draw k1 st1
    obtain ⟨i, hi⟩ : ∃ i, i = i0 - 2 := ⟨_, rfl⟩
    rw [show (fun i j : Int => V.int (i - j)) i0 2 = V.int i by rw [hi]]
    refine ⟨_, rfl, a, p, ns, rfl, st1, fun H2 v d k2 st2 hd hv => ?_⟩
    have LR2 := LR1.draw k2 st2
    refine ⟨_, rfl, a, p, ns, 12, rfl, st2, by decide, by decide, fun H3 kd k3 st3 kd0 kd1 => ?_⟩
    have L3 := LR2.draw k3 st3
    have hv3 : Has A H3 v d := hv.sv (LR2.I.sv k3)
    have ilo : -(2 ^ 62) ≤ i := by omega
    clear LR0 LR1 LR2 k1 k2 k3 st1 st2 st3 hv
    obtain ⟨dsS, hsS⟩ := L3.pt.sm.s_
    refine ⟨_, rfl, sa.s, A.Store, dsS, _, _, rfl, hsS, L.c_Store.cl, L.n_Store_things, st_things _ _ _ _, sa.t, _, rfl, .inl (SqL.of L3.pt.sm.t_), ?_⟩
    have hmany : (sa.X.map V.ref).length = S.things.length := by rw [List.length_map, L3.pt.sm.lx]
    rw [hmany]
    have okd := val_ok (S := S) hd L3.two
    have bd2 : S.things.length < 100000 := by omega
    have pl : ∀ es, (S.put 1 es).things.length = S.things.length := fun es => put_len S 1 es
    have tw : ∀ es, 2 ≤ (S.put 1 es).things.length := fun es => by rw [pl]; exact L3.two
    refine ⟨_, rfl, _, _, rfl, rfl, _, rfl, ite2 (fun h4 => ?_) fun h4 => ?_⟩
    · refine ⟨_, rfl, (by show 4 ≤ sizeLine; decide), fun T nT => ?_⟩
      have sT := same_upd (o := .tup [.str "push", .str "insert", .str "pop", .str "remove"]) nT
      refine ⟨a, p, T, ns, _, rfl, L3.I.st.same sT, SqT.of upd_same, (by show 0 < 4; decide), (by show 4 ≤ 100; decide), fun H4 vn hvn k4 st4 => ?_⟩
      have L4 := (L3.same sT).draw k4 st4
      have hv4 : Has A H4 v d := (hv3.sv (Same.sv sT)).sv ((L3.same sT).I.sv k4)
      obtain ⟨c, hc, rfl⟩ : ∃ c ∈ chgs i d, vn = .str c.nm := by
        simp only [List.mem_cons, List.not_mem_nil, or_false] at hvn
        rcases hvn with rfl | rfl | rfl | rfl
        · exact ⟨.push d, by simp [chgs], rfl⟩
        · exact ⟨.insert i d, by simp [chgs], rfl⟩
        · exact ⟨.pop, by simp [chgs], rfl⟩
        · exact ⟨.remove i, by simp [chgs], rfl⟩
      have okv : ∀ e ∈ c.args, okV S e := by
        simp only [chgs, List.mem_cons, List.not_mem_nil, or_false] at hc
        rcases hc with rfl | rfl | rfl | rfl <;> intro e he <;> simp only [Cl.args, List.mem_cons, List.not_mem_nil, or_false] at he
        · rw [he]; exact okd
        · rcases he with rfl | rfl
          · trivial
          · exact okd
        · rw [he]; trivial
      intro pD nD
      refine ⟨_, rfl, one, fun l1 nl1 => ⟨_, rfl, _, rfl, two, fun l2 nl2 => ⟨(by decide), fun l3 nl3 => ⟨_, rfl, one, fun l4 nl4 => ?_⟩⟩⟩⟩
      have e0 := same_upd (o := .dK []) nD
      have e1 := same_upd (o := .lst [v]) nl1
      have e2 := same_upd (o := .lst [.int i, v]) nl2
      have e3 := same_upd (o := .lst []) nl3
      have e4 := same_upd (o := .lst [.int i]) nl4
      have pD1 : upd H4 pD (.dK []) pD = some (.dK []) := upd_same
      refine ⟨(e1.trans (e2.trans (e3.trans e4))) pD _ pD1, [((.inr "push" : Key), .ref l1), (.inr "insert", .ref l2), (.inr "pop", .ref l3), (.inr "remove", .ref l4)], rfl, (by show 4 ≤ 15; decide), ?_⟩
      rw [merge4]
      have ne1 : l1 ≠ pD := (ne_of_none pD1 nl1).symm
      have ne2 : l2 ≠ pD := (ne_of_none (e1 _ _ pD1) nl2).symm
      have ne3 : l3 ≠ pD := (ne_of_none ((e1.trans e2) _ _ pD1) nl3).symm
      have ne4 : l4 ≠ pD := (ne_of_none ((e1.trans (e2.trans e3)) _ _ pD1) nl4).symm
      have x1 := (e2.trans (e3.trans e4)) l1 _ upd_same
      have x2 := (e3.trans e4) l2 _ upd_same
      have x3 := e4 l3 _ upd_same
      have x4 := upd_same (H := upd (upd (upd (upd H4 pD (.dK [])) l1 (.lst [v])) l2 (.lst [.int i, v])) l3 (.lst [])) (a := l4) (o := .lst [.int i])
      have s04 := e0.trans (e1.trans (e2.trans (e3.trans e4)))
      generalize upd (upd (upd (upd (upd H4 pD (.dK [])) l1 _) l2 _) l3 _) l4 _ = Hx at s04 x1 x2 x3 x4 ⊢
      clear e0 e1 e2 e3 e4
      have s45 : Same H4 (upd Hx pD (.dK [((.inr "push" : Key), .ref l1), (.inr "insert", .ref l2), (.inr "pop", .ref l3), (.inr "remove", .ref l4)])) := fun b o e => by
        rw [upd_ne (ne_of_none e nD)]
        exact s04 _ _ e
      have dg : ∀ (k : Key) (o : Option V), valV [((.inr "push" : Key), V.ref l1), (.inr "insert", .ref l2), (.inr "pop", .ref l3), (.inr "remove", .ref l4)] k = o → DGet (upd Hx pD (.dK [((.inr "push" : Key), .ref l1), (.inr "insert", .ref l2), (.inr "pop", .ref l3), (.inr "remove", .ref l4)])) pD (kV k) o := fun k o h => by
        rw [← h]
        exact DGet.k upd_same
      obtain ⟨v1, v2, v3, v4⟩ := get4 (.ref l1) (.ref l2) (.ref l3) (.ref l4)
      have hv5 : Has A (upd Hx pD (.dK [((.inr "push" : Key), .ref l1), (.inr "insert", .ref l2), (.inr "pop", .ref l3), (.inr "remove", .ref l4)])) v d := hv4.sv (Same.sv s45)
      obtain ⟨l, us2, hdg, hl2, hus2⟩ : ∃ (l : Addr) (us2 : List V), DGet (upd Hx pD (.dK [((.inr "push" : Key), .ref l1), (.inr "insert", .ref l2), (.inr "pop", .ref l3), (.inr "remove", .ref l4)])) pD (.str c.nm) (some (.ref l)) ∧
          upd Hx pD (.dK [((.inr "push" : Key), .ref l1), (.inr "insert", .ref l2), (.inr "pop", .ref l3), (.inr "remove", .ref l4)]) l = some (.lst us2) ∧ Hs A (upd Hx pD (.dK [((.inr "push" : Key), .ref l1), (.inr "insert", .ref l2), (.inr "pop", .ref l3), (.inr "remove", .ref l4)])) us2 c.args := by
        have hc' := hc
        simp only [chgs, List.mem_cons, List.not_mem_nil, or_false] at hc'
        rcases hc' with rfl | rfl | rfl | rfl
        · exact ⟨l1, [v], dg (.inr "push") _ v1, by rw [upd_ne ne1]; exact x1, hv5, trivial⟩
        · exact ⟨l2, [.int i, v], dg (.inr "insert") _ v2, by rw [upd_ne ne2]; exact x2, rfl, hv5, trivial⟩
        · exact ⟨l3, [], dg (.inr "pop") _ v3, by rw [upd_ne ne3]; exact x3, trivial⟩
        · exact ⟨l4, [.int i], dg (.inr "remove") _ v4, by rw [upd_ne ne4]; exact x4, rfl, trivial⟩
      refine ⟨_, rfl, pD, .ref l, rfl, hdg, ?_⟩
      have L5 := L4.same s45
      generalize upd Hx pD _ = H5 at L5 hv5 hl2 hus2 ⊢
      refine ⟨_, rfl, _, rfl, _, rfl, sa, S, x, m, ds, l, us2, .ok c, rfl, L5.pt, SqL.of hl2, hus2, le, bd2, okv, ?_⟩
      cases hres : c.res ds with
      | new es => exact absurd hres (chg_new hc)
      | val e es =>
        intro H6 sa6 m6 t6 ev6 pt6 tl6
        have L6 := L5.ev L ev6 pt6 (tw es)
        have hv6 : Has A H6 v d := (ev6.fr.vk L L5.pt.sm).v _ _ hv5
        refine ⟨_, rfl, _, rfl, _, rfl, _, rfl, r, us, ds, v, d, c, i, _, rfl, rfl, hc, L6.hr, L6.hs, hv6, le, fun e' es' he H7' t7 us7 k7 hr7 hs7 tl7 => ?_, fun k mm he => ?_⟩
        · rw [hres] at he
          injection he with h1 h2
          subst h1 h2
          refine ⟨t6, t7, .told e, rfl, tl6.keep L6.hr k7 hr7, tl7, ?_⟩
          exact q H7' sa6 _ x m6 us7 es (L6.row k7 hr7 hs7) ev6.s (by rw [pl]; omega) (Cl.le le hres)
        · rw [hres] at he
          cases he
      | err k mm =>
        refine ⟨chg_err hc hres, fun H6 t6 s6 tl6 => ?_⟩
        have L6 := L5.same s6
        refine ⟨_, rfl, _, rfl, _, rfl, _, rfl, r, us, ds, v, d, c, i, _, rfl, rfl, hc, L6.hr, L6.hs, hv5.sv (Same.sv s6), le, fun e' es' he => ?_, fun k' mm' he H7' t7 s7 tl7 => ?_⟩
        · rw [hres] at he
          cases he
        · rw [hres] at he
          injection he with h1 h2
          subst h1 h2
          refine ⟨t6, t7, .err k mm, rfl, tl6.same s7, tl7, ?_⟩
          exact q H7' sa S x m us ds (L6.same s7) rfl (by omega) le
    refine ⟨_, rfl, _, _, rfl, rfl, _, rfl, ite2 (fun h6 => ?_) fun h6 => ?_⟩
    · refine ⟨_, rfl, (by show 3 ≤ sizeLine; decide), fun T nT => ?_⟩
      have sT := same_upd (o := .tup [.str "contains", .str "count", .str "find"]) nT
      refine ⟨a, p, T, ns, _, rfl, L3.I.st.same sT, SqT.of upd_same, (by show 0 < 3; decide), (by show 3 ≤ 100; decide), fun H4 vn hvn k4 st4 => ?_⟩
      have L4 := (L3.same sT).draw k4 st4
      have hv4 : Has A H4 v d := (hv3.sv (Same.sv sT)).sv ((L3.same sT).I.sv k4)
      obtain ⟨c, hc, rfl⟩ : ∃ c ∈ fnds d, vn = .str c.nm := by
        simp only [List.mem_cons, List.not_mem_nil, or_false] at hvn
        rcases hvn with rfl | rfl | rfl
        · exact ⟨.contains d, by simp [fnds], rfl⟩
        · exact ⟨.count d, by simp [fnds], rfl⟩
        · exact ⟨.find d, by simp [fnds], rfl⟩
      have ca : c.args = [d] := by
        simp only [fnds, List.mem_cons, List.not_mem_nil, or_false] at hc
        rcases hc with rfl | rfl | rfl <;> rfl
      refine ⟨_, rfl, _, rfl, _, rfl, one, fun l nl => ?_⟩
      have s5 := same_upd (o := .lst [v]) nl
      have L5 := L4.same s5
      have hv5 := hv4.sv (Same.sv s5)
      refine ⟨sa, S, x, m, ds, l, [v], .ok c, rfl, L5.pt, SqL.of upd_same, (by show Hs A _ [v] c.args; rw [ca]; exact ⟨hv5, trivial⟩), le, bd2, (fun e he => by rw [ca] at he; simp at he; rw [he]; exact okd), ?_⟩
      rw [fnd_res hc]
      intro H6 sa6 m6 t6 ev6 pt6 tl6
      rw [put_same L5.pt.th] at pt6
      have L6 := L5.ev L ev6 pt6 L3.two
      have hv6 : Has A H6 v d := (ev6.fr.vk L L5.pt.sm).v _ _ hv5
      refine ⟨_, rfl, _, rfl, _, rfl, r, us, ds, v, d, c, rfl, hc, SqL.of L6.hr, L6.hs, hv6, by omega, fun H7' t7 s7 tl7 => ?_⟩
      refine ⟨t6, t7, .told (rv ds c), rfl, tl6.same s7, tl7, ?_⟩
      exact q H7' sa6 S x m6 us ds (L6.same s7) ev6.s (by omega) le
    refine ⟨_, rfl, rfl, _, rfl, ite2 (fun h7 => ?_) fun h7 => ?_⟩
    · refine ⟨_, rfl, .inl ⟨rfl, _, SqL.of L3.hr⟩, r, us, rfl, rfl, L3.hr, ?_⟩
      have L4 := L3.row (us' := us.reverse) (ds' := ds.reverse) keep_upd upd_same ((L3.hs.imp fun _ _ h => h.sv (keepsv L3.hr keep_upd upd_same)).rev)
      generalize upd H3 r _ = H4 at L4 ⊢
      refine ⟨_, rfl, (by decide), fun l nl => ?_⟩
      have L5 := L4.same (same_upd (o := .lst []) nl)
      refine ⟨sa, S, x, m, ds, l, [], .ok .reverse, rfl, L5.pt, SqL.of upd_same, trivial, le, bd2, nofun, ?_⟩
      show Rs.t P w K A sa S 1 x _ _ (.val .non ds.reverse)
      intro H6 sa6 m6 t6 ev6 pt6 tl6
      have L6 := L5.ev L ev6 pt6 (tw _)
      refine ⟨two, fun t7 nt7 => ?_⟩
      have s7 := same_upd (o := .tup [.str "told", .non]) nt7
      refine ⟨t6, t7, .told .non, rfl, tl6.same s7, ⟨.non, SqT.of upd_same, rfl⟩, ?_⟩
      exact q _ sa6 _ x m6 us.reverse ds.reverse (L6.same s7) ev6.s (by rw [pl]; omega) (by rw [List.length_reverse]; exact le)
    refine ⟨_, rfl, rfl, _, rfl, ite2 (fun h8 => ?_) fun h8 => ?_⟩
    · refine ⟨_, rfl, _, rfl, r, us, rfl, .inl (SqL.of L3.hr), _, _, rfl, rfl, a, p, ns, _, rfl, L3.I.st, by omega, by omega, fun H4 j0 k4 st4 _ j1 => ⟨_, _, rfl, rfl, ?_⟩⟩
      have L4 := L3.draw k4 st4
      obtain ⟨j, hj⟩ : ∃ j, j = j0 - 2 := ⟨_, rfl⟩
      rw [show (fun i j : Int => V.int (i - j)) j0 2 = V.int j by rw [hj]]
      refine ⟨_, rfl, _, rfl, _, rfl, two, fun l nl => ?_⟩
      have L5 := L4.same (same_upd (o := .lst [.int i, .int j]) nl)
      refine ⟨sa, S, x, m, ds, l, _, .ok (.slice i j), rfl, L5.pt, SqL.of upd_same, ⟨rfl, rfl, trivial⟩, le, bd2, (fun e he => by simp only [Cl.args, List.mem_cons, List.not_mem_nil, or_false] at he; rcases he with rfl | rfl <;> trivial), ?_⟩
      by_cases hin : 0 ≤ i ∧ i ≤ j ∧ j ≤ ds.length
      · rw [show (Cl.slice i j).res ds = .new ((ds.take j.toNat).drop i.toNat) from if_pos hin]
        intro H6 sa6 t6 r6 ev6 sm6 st6 hr6
        have th6 : (S.things ++ [Th.parts ((ds.take j.toNat).drop i.toNat)])[1]? = some (.parts ds) := by
          rw [List.getElem?_append_left (by have := L3.two; omega)]
          exact L3.pt.th
        obtain ⟨x6, m6, hX6, hM6, _⟩ := sm6.get (i := 1) th6
        have L6 := L5.ev L ev6 ⟨sm6, hX6, hM6, th6⟩ (by show 2 ≤ (S.things ++ [_]).length; rw [List.length_append]; have := L3.two; omega)
        refine ⟨_, rfl, _, _, rfl, rfl, _, rfl, ite2 (fun h => ⟨_, rfl, _, _, rfl, rfl, _, rfl, ite2 (fun h2 => ⟨_, rfl, r, us, rfl, .inl (SqL.of L6.hr), _, _, rfl, rfl, _, rfl, ?_⟩) (fun h2 => absurd (nd h2) (by omega))⟩) (fun h => absurd (nd h) (by omega))⟩
        rw [decide_eq_true (by omega)]
        refine iteF ⟨_, rfl, _, rfl, _, rfl, _, rfl, i, rfl, _, rfl, j, rfl, r, us, rfl, SqL.of L6.hr, fun D2 nD2 => ?_⟩
        rw [cutV_mid us (by omega) (by omega) (by omega)]
        have s7 := same_upd (o := .lst ((us.take j.toNat).drop i.toNat)) nD2
        have L7 := L6.same s7
        refine ⟨sa6, _, t6, r6, D2, (ds.take j.toNat).drop i.toNat, _, S.things.length, by rw [ev6.s]; rfl, L7.pt.sm, ?_, ?_, sqt_same s7 st6, hr6.sv (Same.sv s7), SqL.of upd_same, (L7.hs.take _).drop _, ?_, ?_⟩
        · show (S.things ++ [_])[S.things.length]? = _
          rw [List.getElem?_append_right (Nat.le_refl _), Nat.sub_self]
          rfl
        · show _ = (S.things ++ [_]).length
          rw [List.length_append, List.length_singleton]
        · rw [List.length_drop, List.length_take]
          omega
        · exact q _ sa6 { S with things := S.things ++ [.parts ((ds.take j.toNat).drop i.toNat)] } x6 m6 us ds L7 ev6.s (by show (S.things ++ [_]).length ≤ _; rw [List.length_append, List.length_singleton]; omega) le
      · rw [show (Cl.slice i j).res ds = .err "IndexError" "index out of range" from if_neg hin]
        refine ⟨idx_ok, fun H6 t6 s6 tl6 => ?_⟩
        have L6 := L5.same s6
        obtain ⟨dsT, hsT⟩ := L6.pt.sm.s_
        refine ⟨_, rfl, _, _, rfl, rfl, _, rfl, ite2 (fun h => ⟨_, rfl, _, _, rfl, rfl, _, rfl, ite2 (fun h2 => ⟨_, rfl, r, us, rfl, .inl (SqL.of L6.hr), _, _, rfl, rfl, _, rfl, ?_⟩) (fun h2 => ?_)⟩) (fun h => ?_)⟩
        case refine_1 =>
          have h := of_decide_eq_true h
          have h2 := of_decide_eq_true h2
          rw [decide_eq_false (by omega)]
          refine iteT ⟨_, rfl, two, fun T nT => ⟨_, _, ss_dpT (sqt_same (same_upd nT) tl6.1), ss_dpT (SqT.of upd_same), ss_shape idx_ok.2.1 idx_ok.2.2, ss_shape idx_ok.2.1 idx_ok.2.2, _, rfl, ?_⟩⟩
          rw [eqv_ss, decide_eq_true rfl, decide_eq_true rfl]
          have L7 := L6.same (same_upd (o := .tup [.str "IndexError", .str "index out of range"]) nT)
          refine iteT ⟨_, rfl, sa.s, A.Store, dsT, _, _, rfl, (same_upd nT) _ _ hsT, L.c_Store.cl, L.n_Store_things, st_things _ _ _ _, sa.t, _, rfl, .inl (SqL.of L7.pt.sm.t_), _, rfl, rfl, ?_⟩
          rw [hmany, decide_eq_true rfl]
          exact q _ sa S x m us ds L7 rfl (by omega) le
        all_goals
          refine iteT ⟨_, rfl, two, fun T nT => ⟨_, _, ss_dpT (sqt_same (same_upd nT) tl6.1), ss_dpT (SqT.of upd_same), ss_shape idx_ok.2.1 idx_ok.2.2, ss_shape idx_ok.2.1 idx_ok.2.2, _, rfl, ?_⟩⟩
          rw [eqv_ss, decide_eq_true rfl, decide_eq_true rfl]
          have L7 := L6.same (same_upd (o := .tup [.str "IndexError", .str "index out of range"]) nT)
          refine iteT ⟨_, rfl, sa.s, A.Store, dsT, _, _, rfl, (same_upd nT) _ _ hsT, L.c_Store.cl, L.n_Store_things, st_things _ _ _ _, sa.t, _, rfl, .inl (SqL.of L7.pt.sm.t_), _, rfl, rfl, ?_⟩
          rw [hmany, decide_eq_true rfl]
          exact q _ sa S x m us ds L7 rfl (by omega) le
    refine ⟨_, rfl, rfl, _, rfl, ite2 (fun h9 => ?_) fun h9 => ?_⟩
    · refine ⟨_, rfl, _, rfl, (by decide), fun l nl => ?_⟩
      have L5 := L3.same (same_upd (o := .lst []) nl)
      refine ⟨sa, S, x, m, ds, l, [], .ok .copy, rfl, L5.pt, SqL.of upd_same, trivial, le, bd2, nofun, ?_⟩
      show Rs.t P w K A sa S 1 x _ _ (.new ds)
      intro H6 sa6 t6 r6 ev6 sm6 st6 hr6
      have th6 : (S.things ++ [Th.parts ds])[1]? = some (.parts ds) := by
        rw [List.getElem?_append_left (by have := L3.two; omega)]
        exact L3.pt.th
      obtain ⟨x6, m6, hX6, hM6, _⟩ := sm6.get (i := 1) th6
      have L6 := L5.ev L ev6 ⟨sm6, hX6, hM6, th6⟩ (by show 2 ≤ (S.things ++ [_]).length; rw [List.length_append]; have := L3.two; omega)
      refine ⟨_, rfl, sa6, _, t6, r6, r, ds, us, S.things.length, by rw [ev6.s]; rfl, L6.pt.sm, ?_, ?_, st6, hr6, SqL.of L6.hr, L6.hs, by omega, ?_⟩
      · show (S.things ++ [_])[S.things.length]? = _
        rw [List.getElem?_append_right (Nat.le_refl _), Nat.sub_self]
        rfl
      · show _ = (S.things ++ [_]).length
        rw [List.length_append, List.length_singleton]
      · exact q _ sa6 { S with things := S.things ++ [.parts ds] } x6 m6 us ds L6 ev6.s (by show (S.things ++ [_]).length ≤ _; rw [List.length_append, List.length_singleton]; omega) le
    refine ⟨_, rfl, rfl, _, rfl, ite2 (fun h10 => ?_) fun h10 => ?_⟩
    · refine ⟨_, rfl, _, rfl, two, fun T nT => ?_⟩
      have sT := same_upd (o := .tup [.str "get", .str "set"]) nT
      refine ⟨a, p, T, ns, _, rfl, L3.I.st.same sT, SqT.of upd_same, (by show 0 < 2; decide), (by show 2 ≤ 100; decide), fun H4 vn hvn k4 st4 => ?_⟩
      have L4 := (L3.same sT).draw k4 st4
      have hv4 : Has A H4 v d := (hv3.sv (Same.sv sT)).sv ((L3.same sT).I.sv k4)
      obtain ⟨g, rfl⟩ : ∃ g : Bool, vn = .str (if g = true then "get" else "set") := by
        simp only [List.mem_cons, List.not_mem_nil, or_false] at hvn
        rcases hvn with rfl | rfl
        · exact ⟨true, rfl⟩
        · exact ⟨false, rfl⟩
      refine ⟨_, rfl, _, rfl, sa, S, x, m, ds, g, i, v, d, rfl, L4.pt, hv4, fun n H5 t5 s5 tl5 => ?_, fun hg e H5 t5 h0 he s5 tl5 => ?_, fun hg hin H5 t5 ev5 pt5 tl5 => ?_⟩
      · have L5 := L4.same s5
        exact ⟨_, rfl, _, rfl, _, rfl, _, rfl, _, rfl, sa, S, x, m, r, t5, ds, ds, us, i, v, d, rfl, L5.pt, L5.hr, L5.hs, hv4.sv (Same.sv s5), fun _ => ⟨tl5, fun H6 s6 => q H6 sa S x m us ds (L5.same s6) rfl (by omega) le⟩, fun hin => absurd hin n⟩
      · have L5 := L4.same s5
        have hlt := (List.getElem?_eq_some_iff.mp he).1
        exact ⟨_, rfl, _, rfl, _, rfl, _, rfl, _, rfl, sa, S, x, m, r, t5, ds, ds, us, i, v, d, rfl, L5.pt, L5.hr, L5.hs, hv4.sv (Same.sv s5), fun n => absurd ⟨h0, by omega⟩ n, fun _ => ⟨e, tl5, .inl ⟨rfl, he⟩, fun H6 us6 k6 hr6 hs6 => q H6 sa S x m us6 ds (L5.row k6 hr6 hs6) rfl (by omega) le⟩⟩
      · have L5 := L4.ev L ev5 pt5 (tw _)
        have hv5 : Has A H5 v d := (ev5.fr.vk L L4.pt.sm).v _ _ hv4
        exact ⟨_, rfl, _, rfl, _, rfl, _, rfl, _, rfl, sa, _, x, m, r, t5, ds, ds.set i.toNat d, us, i, v, d, rfl, L5.pt, L5.hr, L5.hs, hv5, fun n => absurd hin n, fun _ => ⟨d, tl5, .inr ⟨rfl, rfl⟩, fun H6 us6 k6 hr6 hs6 => q H6 sa _ x m us6 _ (L5.row k6 hr6 hs6) rfl (by rw [pl]; omega) (by rw [List.length_set]; exact le)⟩⟩
    refine ⟨_, rfl, rfl, _, rfl, ite2 (fun h11 => ?_) fun h11 => ?_⟩
    · exact ⟨_, rfl, _, rfl, a, p, ns, sa, S, x, m, ds, rfl, L3.I.st, L3.pt, L3.I.np, le, bd2, fun H4 k4 st4 => q H4 sa S x m us ds (L3.draw k4 st4) rfl (by omega) le⟩
    refine ⟨_, rfl, (by decide), fun l nl => ?_⟩
    have L5 := L3.same (same_upd (o := .lst []) nl)
    refine ⟨sa, S, x, m, ds, l, [], .ok .length, rfl, L5.pt, SqL.of upd_same, trivial, le, bd2, nofun, ?_⟩
    show Rs.t P w K A sa S 1 x _ _ (.val (.int ((ds.length : Nat) : Int)) ds)
    intro H6 sa6 m6 t6 ev6 pt6 tl6
    rw [put_same L5.pt.th] at pt6
    have L6 := L5.ev L ev6 pt6 L3.two
    refine ⟨_, rfl, r, us, rfl, .inl (SqL.of L6.hr), two, fun t7 nt7 => ?_⟩
    rw [hul]
    have s7 := same_upd (o := .tup [.str "told", .int ((ds.length : Nat) : Int)]) nt7
    refine ⟨t6, t7, .told (.int ((ds.length : Nat) : Int)), rfl, tl6.same s7, ⟨_, SqT.of upd_same, rfl⟩, ?_⟩
    exact q _ sa6 S x m6 us ds (L6.same s7) ev6.s (by omega) le
end
end My
namespace My
open PySem L2 SX XT XS XE XD XL XZ
open C8 (pss_cut tCut cutS_slice pe_gc)
def intsV (n : Nat) : List V := (List.range n).map fun k => V.int (k : Nat)
def intsD (n : Nat) : List Dv := (List.range n).map fun k => Dv.int (k : Nat)
theorem hs_ints {A : Ads} {H : Hp} : ∀ l : List Nat, Hs A H (l.map fun k => V.int (k : Nat)) (l.map fun k => Dv.int (k : Nat))
  | [] => trivial
  | _ :: r => ⟨rfl, hs_ints r⟩
section
variable {P : Program} {w : World} {K : PySem.W.Frag} {mg : Str → Option Value} {base : Heap} {A : Ads}
def spLaw (K : PySem.W.Frag) : Sp := fun vs H Q _ => ∃ (a : Addr) (ns : List Int), vs = [.ref a] ∧ SqL K H a (ns.map V.int) ∧ ns.length ≤ 63 ∧ ∀ H', Q (.bl true) H'
theorem ok_law {f : Addr} {fd : FuncData} (F : Fun K "law" "law" s_law f fd) (L : Lib P K mg A) (D : Fd w L) : FnOk P w K mg base CX0 12 f fd ["script"] (spLaw K) := by
  have G_law_begin : FnOk P w K mg base CX0 1 L.law_begin.f L.law_begin.fd ["script", "k"] (spBegin K) := ok_law_begin L
  have G_law_draw : FnOk P w K mg base CX0 2 L.law_draw.f L.law_draw.fd ["state", "many"] (spDraw K) := ok_law_draw L
  have G_law_pick : FnOk P w K mg base CX0 3 L.law_pick.f L.law_pick.fd ["state", "row"] (spPick K) := ok_law_pick L
  have G_law_value : FnOk P w K mg base CX0 4 L.law_value.f L.law_value.fd ["state"] (spVal K A) := ok_law_value L
  have G_Store_init : FnOk P w K mg base CX0 3 L.Store_init.f L.Store_init.fd ["self", "lines"] (spSI P w K A) := ok_Store_init L
  have G_Ref_init : FnOk P w K mg base CX0 1 L.Ref_init.f L.Ref_init.fd ["self", "number"] (spI1 A.Ref "number") := ok_Ref_init L
  have G_make_list : FnOk P w K mg base CX0 4 L.make_list.f L.make_list.fd ["store", "values"] (spML P w K A) := ok_make_list L
  have G_law_step : FnOk P w K mg base CX0 11 L.law_step.f L.law_step.fd ["store", "row", "state"] (spStep P w K A) := ok_law_step L D
  have G_law_rows : FnOk P w K mg base CX0 3 L.law_rows.f L.law_rows.fd ["told", "due"] (spRws K A) := ok_law_rows L
  refine F.ok sc_law (fun vs H Q E h => ?_) (fun cdv A' outer s H vs Q E hr h => ?_)
  · obtain ⟨a, ns, rfl, _⟩ := h
    rfl
  · obtain ⟨a, ns, rfl, ha, hns, q⟩ := h
    refine ⟨_, (pss_cons (ps_set (i := 1) sc_law.nd rfl (.inr rfl) (pe_call G_law_begin (hr.mono (by omega)) (by rfl) L.law_begin.g L.law_begin.F.kp L.law_begin.b .nil pass0 (pa_cons (pv 0) (pa_cons pe_int pa_nil))))
      (pss_cons (ps_set (i := 2) sc_law.nd rfl (.inl rfl) (pe_make L.Store_init.m G_Store_init (hr.mono (by omega)) (by rfl) L.c_Store.g L.Store_init.b .nil pass0 (pa_cons (pe_lst pa_nil) pa_nil)))
      (pss_cons (ps_setLc (i := 3) (own := [("k", 5)]) (g := gName 5) (tt := tYes) (by rfl) sc_law.nd rfl rfl (sw_true rfl rfl rfl (by decide +kernel)) (pi_range1 (by rfl) L.z_range (pa_cons (pe_call G_law_pick (hr.mono (by omega)) (by rfl) L.law_pick.g L.law_pick.F.kp L.law_pick.b .nil pass0 (pa_cons (pv 1) (pa_cons (pe_tup (pa_cons pe_int (pa_cons pe_int (pa_cons pe_int (pa_cons pe_int pa_nil))))) pa_nil))) pa_nil)) (blkOk_by (own := [("k", 5)]) (N := ["script", "state", "store", "row", "given", "k"]) (sc := defScope (top 140)) (by decide +kernel)) (fun _ _ _ _ _ => (pg_name (i := 5) sc_law.nd rfl (.inl rfl))) (fun _ _ _ _ _ => pts_nil) (fun _ _ _ _ _ => (pe_call G_law_value (hr.mono (by omega)) (by rfl) L.law_value.g L.law_value.F.kp L.law_value.b .nil pass0 (pa_cons (pv 1) pa_nil))))
      (pss_cut (ps_if (pt_cmpR op_eq (pe_call G_law_draw (hr.mono (by omega)) (by rfl) L.law_draw.g L.law_draw.F.kp L.law_draw.b .nil pass0 (pa_cons (pv 1) (pa_cons pe_int pa_nil))) pe_int (nomark _))
        (pss_one (ps_setLc (i := 3) (own := [("k", 5)]) (g := gName 5) (tt := tYes) (by rfl) sc_law.nd rfl rfl (sw_true rfl rfl rfl (by decide +kernel)) (pi_range1 (by rfl) L.z_range (pa_cons (pe_op op_add pe_int (pe_call G_law_draw (hr.mono (by omega)) (by rfl) L.law_draw.g L.law_draw.F.kp L.law_draw.b .nil pass0 (pa_cons (pv 1) (pa_cons pe_int pa_nil)))) pa_nil)) (blkOk_by (own := [("k", 5)]) (N := ["script", "state", "store", "row", "given", "k"]) (sc := defScope (top 140)) (by decide +kernel)) (fun _ _ _ _ _ => (pg_name (i := 5) sc_law.nd rfl (.inl rfl))) (fun _ _ _ _ _ => pts_nil) (fun _ _ _ _ _ => (pv 5))))
        pss_nil)
      (pss_cons (ps_set (i := 4) sc_law.nd rfl (.inl rfl) (pe_callTy call_list_of (by rfl) L.z_list (by decide +kernel) (pa_cons (pv 3) pa_nil)))
      (pss_cons (ps_if (pt_not (pt_cmpR (op_eqM L (hr.mono (by omega))) (pe_call G_make_list (hr.mono (by omega)) (by rfl) L.make_list.g L.make_list.F.kp L.make_list.b .nil pass0 (pa_cons (pv 2) (pa_cons (pv 4) pa_nil))) (pe_make L.Ref_init.m G_Ref_init (hr.mono (by omega)) (by rfl) L.c_Ref.g L.Ref_init.b .nil pass0 (pa_cons pe_int pa_nil)) (nomark _)))
        (pss_one (ps_ret pe_bl))
        pss_nil)
      (pss_cons (ps_expr (pe_bm PySem.F.plainAttrs_list PySem.F.slot_list_append PySem.F.type_list_append mt_append (pv 4) (pa_cons pe_int pa_nil)))
      (pss_cons (ps_for PassesOwn.never rfl (pi_range1 (by rfl) L.z_range (pa_cons (pe_callB (call_min2 rfl) (by rfl) L.z_min (by decide +kernel) (pa_cons pe_int (pa_cons (pe_callB (call_max2 rfl) (by rfl) L.z_max (by decide +kernel) (pa_cons pe_int (pa_cons (pe_callB call_len_seq (by rfl) L.z_len PySem.boot_len (pa_cons (pv 0) pa_nil)) pa_nil))) pa_nil))) pa_nil)) (pg_name (i := 5) sc_law.nd rfl (.inl rfl))
        (pss_one (ps_if (PW.pt (pw_or (pt_not (pt_val (pe_call G_law_step (hr.mono (by omega)) (by rfl) L.law_step.g L.law_step.F.kp L.law_step.b .nil pass0 (pa_cons (pv 2) (pa_cons (pv 3) (pa_cons (pv 1) pa_nil)))))) (pw_or1 (pt_not (pt_val (pe_call G_law_rows (hr.mono (by omega)) (by rfl) L.law_rows.g L.law_rows.F.kp L.law_rows.b .nil pass0 (pa_cons (pe_fld (pe_ix ix_list (pe_fld (pv 2) rfl) pe_int (fun _ _ => rfl)) rfl) (pa_cons (pv 3) pa_nil))))))))
        (pss_one (ps_ret pe_bl))
        pss_nil)))
      (pss_one (ps_ret pe_bl)))))))))), ?_⟩
    refine ⟨_, rfl, a, ns, 0, rfl, ha, by omega, fun H1 p np s1 st1 => ?_⟩
    refine ⟨Nat.zero_le _, fun l nl b db nb ndb ndbb => ?_⟩
    have sm0 : Same H1 (upd (upd (upd H1 l (.lst [])) db (.own b)) b (.ins A.Store db [])) := fun c u e => by
      have e1 : upd H1 l (.lst []) c = some u := by rw [upd_ne (ne_of_none e nl)]; exact e
      rw [upd_ne (ne_of_none e1 nb), upd_ne (ne_of_none e1 ndb)]
      exact e1
    have nl' : ∀ c, upd H1 l (.lst []) c = none → c ≠ l := fun c e z => by rw [z, upd_same] at e; cases e
    have nb1 : H1 b = none := by have := nl' b nb; rw [upd_ne this] at nb; exact nb
    refine ⟨b, db, l, [], rfl, upd_same, SqL.of (by rw [upd_ne (nl' b nb).symm, upd_ne (nl' db ndb).symm]; exact upd_same), (nl' b nb).symm, fun H2 sa hsb k2 sm2 fr2 => ⟨rfl, ?_⟩⟩
    subst hsb
    have s2 : Same H1 H2 := fun c u e => k2 _ _ (sm0 _ _ e) fun z => by rw [z, nb1] at e; cases e
    have ownN : ∀ c, sa.own c → H1 c = none := fun c z => by
      rcases fr2 c z with rfl | q
      · exact nb1
      · exact sm0.free q
    have I2 : LI P w K A a p ns H1 H2 sa (stO []) := ⟨st1, My.Same.keep s2, st1.same s2, sm2, ownN⟩
    clear sm0 nl' nb1 ownN k2 fr2 sm2 nb ndb ndbb nl
    refine ⟨_, rfl, (by show 4 ≤ sizeLine; decide), fun T nT => ?_⟩
    have sT := same_upd (o := .tup [.int 0, .int 1, .int 5, .int 12]) nT
    refine ⟨a, p, T, ns, _, rfl, I2.st.same sT, SqT.of upd_same, (by show 0 < 4; decide), (by show 4 ≤ 100; decide), fun H3 vn hvn k3 st3 => ?_⟩
    have I3 := (I2.same sT).draw k3 st3
    obtain ⟨n, hn, rfl⟩ : ∃ n : Nat, n ≤ 12 ∧ vn = .int ((n : Nat) : Int) := by
      simp only [List.mem_cons, List.not_mem_nil, or_false] at hvn
      rcases hvn with rfl | rfl | rfl | rfl
      · exact ⟨0, by omega, rfl⟩
      · exact ⟨1, by omega, rfl⟩
      · exact ⟨5, by omega, rfl⟩
      · exact ⟨12, by omega, rfl⟩
    refine ⟨_, rfl, by omega, by omega, fun D nD => ?_⟩
    have d7 : H1 D = none := I3.h7 nD
    have dnp : D ≠ p := fun z => by obtain ⟨xs, hp⟩ := I3.hp; rw [z, hp] at nD; cases nD
    have dno : ¬ sa.own D := I3.sm.fresh L nD
    refine lc_it (walk_range (lo := 0) (n := n)) (fun i H' => LI P w K A a p ns H1 H' sa (stO []) ∧ ∃ vs ds, H' D = some (.lst vs) ∧ Hs A H' vs ds ∧ ds.length = i) ⟨I3.same (same_upd nD), [], [], upd_same, trivial, rfl⟩ (fun _ _ _ _ => trivial) ?_ ?_
    · rintro i vx H4 H5 hi ⟨I4, vs, ds, e1, e2, e3⟩ hy
      obtain ⟨rfl, rfl⟩ := hy
      have dl : vs.length = i := by rw [e2.len, e3]
      refine ⟨rfl, _, rfl, a, p, ns, rfl, I4.st, fun H6 v d k6 st6 hd hv => ⟨vs, k6 _ _ e1 dnp, Nat.lt_of_le_of_lt (m := 100) (by omega) (by decide), ?_⟩⟩
      have I6 := I4.draw k6 st6
      obtain ⟨I7, sv7⟩ := I6.lst (ys := vs ++ [v]) (k6 _ _ e1 dnp) d7 dno dnp
      exact ⟨I7, vs ++ [v], ds ++ [d], upd_same, Hs.app ((e2.imp fun _ _ h => h.sv (I4.sv k6)).imp fun _ _ h => h.sv sv7) (us := [v]) (es := [d]) ⟨hv.sv sv7, trivial⟩, by rw [List.length_append, e3]; rfl⟩
    · rintro H4 ⟨I4, us, ds, e1, e2, e3⟩
      refine ⟨fun σ' H' => ∃ (r : Addr) (us : List V) (ds : List Dv) (y4 y5 : Option V), σ' = [some (.ref a), some (.ref p), some (.ref sa.s), some (.ref r), y4, y5] ∧ LI P w K A a p ns H1 H' sa (stO []) ∧ H' r = some (.lst us) ∧ Hs A H' us ds ∧ H1 r = none ∧ ¬ sa.own r ∧ r ≠ p ∧ ds.length ≤ 1000, ?_, ?_⟩
      · refine ⟨_, rfl, a, p, ns, 6, rfl, I4.st, by decide, by decide, fun H5 r5 k5 st5 r0 r1 => ⟨rfl, _, rfl, ite2 (fun h => ?_) fun h => ?_⟩⟩
        · have I5 := I4.draw k5 st5
          refine ⟨_, rfl, a, p, ns, 7, rfl, st5, by decide, by decide, fun H6 r6 k6 st6 g0 g1 => ⟨_, _, rfl, rfl, ?_⟩⟩
          have I6 := I5.draw k6 st6
          obtain ⟨n2, hn2⟩ : ∃ n2 : Nat, (994 : Int) + r6 = ((n2 : Nat) : Int) := ⟨(994 + r6).toNat, by omega⟩
          refine ⟨((n2 : Nat) : Int), by show [V.int (994 + r6)] = [V.int ((n2 : Nat) : Int)]; rw [hn2], by omega, by omega, fun D2 nD2 => ?_⟩
          refine lc_range (lo := 0) (n := n2) (fun j H' => Same H6 H' ∧ H' D2 = some (.lst (intsV j))) ⟨same_upd nD2, upd_same⟩ ?_ ?_
          · rintro j H13 hj ⟨s13, hD⟩
            rw [Int.zero_add]
            refine ⟨rfl, _, rfl, _, hD, ?_, fun b u e => ?_, ?_⟩
            · unfold intsV
              rw [List.length_map, List.length_range]
              exact Nat.lt_of_le_of_lt (m := 2000) (by omega) (by decide)
            · rw [upd_ne (ne_of_none e nD2)]; exact s13 _ _ e
            · rw [upd_same]
              unfold intsV
              rw [List.range_succ, List.map_append]
              rfl
          · rintro H8 ⟨s8, e8⟩
            refine ⟨D2, intsV n2, intsD n2, none, none, rfl, I6.same s8, e8, hs_ints _, I6.h7 nD2, I6.sm.fresh L nD2, (fun z => by obtain ⟨xs, hp⟩ := I6.hp; rw [z, hp] at nD2; cases nD2), ?_⟩
            unfold intsD
            rw [List.length_map, List.length_range]
            omega
        · have I5 := I4.draw k5 st5
          exact ⟨D, us, ds, none, none, rfl, I5, k5 _ _ e1 dnp, e2.imp fun _ _ h => h.sv (I4.sv k5), d7, dno, dnp, by omega⟩
      rintro σ' H5 ⟨r, us, ds, y4, y5, rfl, I5, hr5, hs5, r7, rno, rnp, hle⟩
      refine ⟨_, rfl, r, us, rfl, .inl (SqL.of hr5), fun G nG => ?_⟩
      have s6 := same_upd (o := .lst us) nG
      have I6 := I5.same s6
      have hG6 : upd H5 G (.lst us) G = some (.lst us) := upd_same
      have hr6 := s6 _ _ hr5
      have hs6 := hs5.imp fun _ _ h => h.sv (Same.sv s6)
      have Gno : ¬ sa.own G := I5.sm.fresh L nG
      have G7 : H1 G = none := I5.h7 nG
      have Gr : r ≠ G := ne_of_none hr5 nG
      have Gp : G ≠ p := fun z => by obtain ⟨xs, hp⟩ := I5.hp; rw [z, hp] at nG; cases nG
      generalize upd H5 G _ = H6 at s6 I6 hG6 hr6 hs6 ⊢
      refine ⟨_, rfl, _, rfl, sa, stO [], G, us, ds, rfl, I6.sm, SqL.of hG6, hs6, hle, (by show 1 < 100000; decide), fun H7 rr sa7 ev7 sm7 hr7 => ?_⟩
      intro y dy ny ndy nyd
      refine ⟨y, dy, _, rfl, upd_same, fun H8 k8 hR8 => ⟨rfl, ?_⟩⟩
      have s8 : Same H7 H8 := Same.made ny ndy k8
      refine ⟨.obj 1, .obj 1, hr7.sv (Same.sv s8), ⟨y, dy, rfl, hR8⟩, rfl, _, rfl, ?_⟩
      rw [decide_eq_true rfl]
      refine iteF ?_
      have hG8 := s8 _ _ (ev7.fr _ _ hG6 Gno)
      refine ⟨_, rfl, .inl ⟨rfl, _, SqL.of hG8⟩, G, us, _, rfl, rfl, hG8, Nat.lt_of_le_of_lt (m := 1000) (by rw [hs5.len]; exact hle) (by decide), ?_⟩
      have I8 := (I6.ev ev7 sm7).same s8
      have th7 : ((stO []).things ++ [Th.parts ds])[1]? = some (.parts ds) := rfl
      obtain ⟨x, m, hX, hM, _⟩ := I8.sm.get (i := 1) th7
      have hr8 := s8 _ _ (ev7.fr _ _ hr6 rno)
      have hs8 := (hs6.imp (ev7.fr.vk L I6.sm).v).imp fun _ _ h => h.sv (Same.sv s8)
      obtain ⟨I9, sv9⟩ := I8.lst (ys := us ++ [V.int 3]) hG8 G7 (ev7.nin hG6 Gno) Gp
      have LR9 : LR P w K A a p ns H1 _ sa7 _ x m r us ds ds := ⟨I9, ⟨I9.sm, hX, hM, th7⟩, by rw [upd_ne Gr]; exact hr8, hs8.imp fun _ _ h => h.sv sv9, r7, ev7.nin hr6 rno, rnp, (by show 2 ≤ 2; decide)⟩
      have e7 := ev7.s
      generalize upd H8 G _ = H9 at LR9 ⊢
      obtain ⟨N, hN, hN40⟩ : ∃ N : Nat, (if (if ((ns.map V.int).length : Int) > 8 then ((ns.map V.int).length : Int) else 8) < 40 then (if ((ns.map V.int).length : Int) > 8 then ((ns.map V.int).length : Int) else 8) else (40 : Int)) = (N : Int) ∧ N ≤ 40 := by
        refine ⟨min 40 (max 8 (ns.map V.int).length), ?_, Nat.min_le_left _ _⟩
        generalize (ns.map V.int).length = z
        split <;> split <;> omega
      obtain ⟨xq, kq, _, _, hs2⟩ := LR9.I.st
      refine ⟨_, rfl, a, _, rfl, .inl hs2, _, _, rfl, _, _, rfl, (N : Int), by show [V.int _] = [V.int _]; rw [hN], by omega, by omega, for_range (n := N) (fun i σ H' => ∃ (y5 : Option V) (sa' : Sa) (S' : St) (x m : Addr) (us : List V) (ds : List Dv), σ = [some (.ref a), some (.ref p), some (.ref sa.s), some (.ref r), some (.ref G), y5] ∧ sa'.s = sa.s ∧ LR P w K A a p ns H1 H' sa' S' x m r us ds ds ∧ ds.length ≤ 1000 ∧ S'.things.length ≤ 2 + i)
        ⟨_, sa7, _, x, m, us, ds, rfl, e7, LR9, hle, Nat.le_refl _⟩ ?_ ?_⟩
      · rintro i σ H10 hi ⟨y5, sa', S', x, m, us, ds, rfl, e', L10, hle, hb⟩
        refine ⟨_, rfl, _, rfl, _, rfl, a, p, ns, H1, sa', S', x, m, r, us, ds, by rw [e']; rfl, L10, hle, by omega, fun H11 sa11 S11 x11 m11 us11 ds11 L11 e11 b11 le11 => ?_⟩
        obtain ⟨dsS, hsS⟩ := L11.pt.sm.s_
        obtain ⟨dx, vs, g1, g2, g3⟩ := L11.pt.at_
        have ax : atI (sa11.X.map V.ref) 1 = some (.ref x11) := atI_nat (j := 1) (by rw [List.getElem?_map, L11.pt.x_]; rfl)
        rw [e11, e'] at hsS
        refine ⟨_, rfl, iteF ?_⟩
        refine ⟨_, rfl, sa.s, A.Store, dsS, _, _, rfl, hsS, L.c_Store.cl, L.n_Store_things, st_things _ _ _ _, sa11.t, _, _, .ref x11, rfl, rfl, SqL.of L11.pt.sm.t_, ax, x11, A.Parts, dx, _, _, rfl, g1, L.c_Parts.cl, L.n_Parts_held, lk_hit, _, rfl, m11, r, vs, us11, ds11, ds11, rfl, g2, SqL.of L11.hr, g3, L11.hs, by omega, _, rfl, ?_⟩
        rw [decide_eq_true rfl]
        exact iteF ⟨_, sa11, S11, x11, m11, us11, ds11, rfl, e11.trans e', L11, le11, by omega⟩
      · rintro σ H10 _
        exact q H10
end
end My
namespace My
open PySem L2 SX XT XS XE XD XL XZ
set_option maxHeartbeats 0 in
theorem all_mk {l : PySem.W.OpenLaw} {w : World} {K : PySem.W.Frag} {h : Heap} {mg : Str → Option Value} {fa cRef cParts cTable cInstance cKin cForm cStore cLivequillError cScriptError fScriptError cdaScriptError ccScriptError a_tagged a_kind_of a_kind_of_thing a_equal a_is_key a_check_size a_is_bounded a_checked_integer a_check_place a_check_gap a_check_gaps a_check_count a_check_arguments a_check_kind a_check_alike a_refuse_field a_get_item a_value_at a_set_item a_refuse_index a_check_key a_put_entry a_make_list a_make_map a_quoted a_write_value a_text_of a_write a_write_around a_write_held a_held_by a_plain_form a_push a_insert a_take_last a_join a_joined a_count a_sort a_extend a_total a_pair_up a_make_pairs a_has a_keys_of a_values_of a_entries a_get a_merge a_clear a_in_capitals a_in_small_letters a_split a_check_not_empty a_replace a_trim a_begins_with a_ends_with a_repeat_ a_lines a_code a_call_method a_method_for a_law_cell a_law_begin a_law_draw a_law_pick a_law_value a_law_same a_law_rows a_law_call a_law_item a_law_places a_law_change a_law_found a_law_equal a_law_new a_law_step a_law_elements a_law_wrong a_law a_take_out_lists a_length_lists a_part_between_lists a_contains_lists a_find_lists a_turn_around_lists a_copy_lists a_take_out_maps a_copy_maps a_length_maps a_length_texts a_part_between_texts a_find_texts a_contains_texts a_turn_around_texts a_Ref_init a_Ref_eq a_Parts_init a_Table_init a_Table_has a_Table_value_of a_Table_put a_Table_take_out a_Table_pairs a_Table_many p_Table_many a_Instance_init a_Kin_init a_Form_init a_Form_add a_Form_is_enough a_Store_init a_Store_make a_Store_at aLM tA0 qA0 tA1 qA1 tA2 qA2 tA3 qA3 tA4 qA4 tA5 qA5 tA6 qA6 tA7 qA7 tA8 qA8 tA9 qA9 tA10 qA10 tA11 qA11 : Addr} (X : K.In h) (G : h.Ns mainGlobals mg) (hfa : mg "law" = some (.ref fa))
    {nmScriptError qScriptError flScriptError : Str}
    {NScriptError : Addr}
    {bsScriptError subScriptError rsf_Table_many : List Value}
    {snScriptError : List Str}
    {abScriptError : Bool}
    {colScriptError : Option Bool}
    {ddScriptError odScriptError anScriptError cddScriptError cldScriptError odf_tagged anf_tagged odf_kind_of anf_kind_of odf_kind_of_thing anf_kind_of_thing odf_equal anf_equal odf_is_key anf_is_key odf_check_size anf_check_size odf_is_bounded anf_is_bounded odf_checked_integer anf_checked_integer odf_check_place anf_check_place odf_check_gap anf_check_gap odf_check_gaps anf_check_gaps odf_check_count anf_check_count odf_check_arguments anf_check_arguments odf_check_kind anf_check_kind odf_check_alike anf_check_alike odf_refuse_field anf_refuse_field odf_get_item anf_get_item odf_value_at anf_value_at odf_set_item anf_set_item odf_refuse_index anf_refuse_index odf_check_key anf_check_key odf_put_entry anf_put_entry odf_make_list anf_make_list odf_make_map anf_make_map odf_quoted anf_quoted odf_write_value anf_write_value odf_text_of anf_text_of odf_write anf_write odf_write_around anf_write_around odf_write_held anf_write_held odf_held_by anf_held_by odf_plain_form anf_plain_form odf_push anf_push odf_insert anf_insert odf_take_last anf_take_last odf_join anf_join odf_joined anf_joined odf_count anf_count odf_sort anf_sort odf_extend anf_extend odf_total anf_total odf_pair_up anf_pair_up odf_make_pairs anf_make_pairs odf_has anf_has odf_keys_of anf_keys_of odf_values_of anf_values_of odf_entries anf_entries odf_get anf_get odf_merge anf_merge odf_clear anf_clear odf_in_capitals anf_in_capitals odf_in_small_letters anf_in_small_letters odf_split anf_split odf_check_not_empty anf_check_not_empty odf_replace anf_replace odf_trim anf_trim odf_begins_with anf_begins_with odf_ends_with anf_ends_with odf_repeat_ anf_repeat_ odf_lines anf_lines odf_code anf_code odf_call_method anf_call_method odf_method_for anf_method_for odf_law_cell anf_law_cell odf_law_begin anf_law_begin odf_law_draw anf_law_draw odf_law_pick anf_law_pick odf_law_value anf_law_value odf_law_same anf_law_same odf_law_rows anf_law_rows odf_law_call anf_law_call odf_law_item anf_law_item odf_law_places anf_law_places odf_law_change anf_law_change odf_law_found anf_law_found odf_law_equal anf_law_equal odf_law_new anf_law_new odf_law_step anf_law_step odf_law_elements anf_law_elements odf_law_wrong anf_law_wrong odlaw anlaw odf_take_out_lists anf_take_out_lists odf_length_lists anf_length_lists odf_part_between_lists anf_part_between_lists odf_contains_lists anf_contains_lists odf_find_lists anf_find_lists odf_turn_around_lists anf_turn_around_lists odf_copy_lists anf_copy_lists odf_take_out_maps anf_take_out_maps odf_copy_maps anf_copy_maps odf_length_maps anf_length_maps odf_length_texts anf_length_texts odf_part_between_texts anf_part_between_texts odf_find_texts anf_find_texts odf_contains_texts anf_contains_texts odf_turn_around_texts anf_turn_around_texts odf_Ref_init anf_Ref_init odf_Ref_eq anf_Ref_eq odf_Parts_init anf_Parts_init odf_Table_init anf_Table_init odf_Table_has anf_Table_has odf_Table_value_of anf_Table_value_of odf_Table_put anf_Table_put odf_Table_take_out anf_Table_take_out odf_Table_pairs anf_Table_pairs odf_Table_many anf_Table_many odf_Instance_init anf_Instance_init odf_Kin_init anf_Kin_init odf_Form_init anf_Form_init odf_Form_add anf_Form_add odf_Form_is_enough anf_Form_is_enough odf_Store_init anf_Store_init odf_Store_make anf_Store_make odf_Store_at anf_Store_at tD0 qD0 tD1 qD1 tD2 qD2 tD3 qD3 tD4 qD4 tD5 qD5 tD6 qD6 tD7 qD7 tD8 qD8 tD9 qD9 tD10 qD10 tD11 qD11 : Option Addr}
    {m0ScriptError m1ScriptError m2ScriptError m3ScriptError m5ScriptError : Option Value}
    {slScriptError ccsScriptError cslScriptError slf_tagged slf_kind_of slf_kind_of_thing slf_equal slf_is_key slf_check_size slf_is_bounded slf_checked_integer slf_check_place slf_check_gap slf_check_gaps slf_check_count slf_check_arguments slf_check_kind slf_check_alike slf_refuse_field slf_get_item slf_value_at slf_set_item slf_refuse_index slf_check_key slf_put_entry slf_make_list slf_make_map slf_quoted slf_write_value slf_text_of slf_write slf_write_around slf_write_held slf_held_by slf_plain_form slf_push slf_insert slf_take_last slf_join slf_joined slf_count slf_sort slf_extend slf_total slf_pair_up slf_make_pairs slf_has slf_keys_of slf_values_of slf_entries slf_get slf_merge slf_clear slf_in_capitals slf_in_small_letters slf_split slf_check_not_empty slf_replace slf_trim slf_begins_with slf_ends_with slf_repeat_ slf_lines slf_code slf_call_method slf_method_for slf_law_cell slf_law_begin slf_law_draw slf_law_pick slf_law_value slf_law_same slf_law_rows slf_law_call slf_law_item slf_law_places slf_law_change slf_law_found slf_law_equal slf_law_new slf_law_step slf_law_elements slf_law_wrong sllaw slf_take_out_lists slf_length_lists slf_part_between_lists slf_contains_lists slf_find_lists slf_turn_around_lists slf_copy_lists slf_take_out_maps slf_copy_maps slf_length_maps slf_length_texts slf_part_between_texts slf_find_texts slf_contains_texts slf_turn_around_texts slf_Ref_init slf_Ref_eq slf_Parts_init slf_Table_init slf_Table_has slf_Table_value_of slf_Table_put slf_Table_take_out slf_Table_pairs slf_Table_many slf_Instance_init slf_Kin_init slf_Form_init slf_Form_add slf_Form_is_enough slf_Store_init slf_Store_make slf_Store_at tO0 qO0 tO1 qO1 tO2 qO2 tO3 qO3 tO4 qO4 tO5 qO5 tO6 qO6 tO7 qO7 tO8 qO8 tO9 qO9 tO10 qO10 tO11 qO11 : Array (Option Value)}
    {ocScriptError kVScriptError dcScriptError pmScriptError ctScriptError cclScriptError cl_ScriptError ocf_tagged kVf_tagged dcf_tagged pmf_tagged cdf_tagged ctf_tagged ocf_kind_of kVf_kind_of dcf_kind_of pmf_kind_of cdf_kind_of ctf_kind_of ocf_kind_of_thing kVf_kind_of_thing dcf_kind_of_thing pmf_kind_of_thing cdf_kind_of_thing ctf_kind_of_thing ocf_equal kVf_equal dcf_equal pmf_equal cdf_equal ctf_equal ocf_is_key kVf_is_key dcf_is_key pmf_is_key cdf_is_key ctf_is_key ocf_check_size kVf_check_size dcf_check_size pmf_check_size cdf_check_size ctf_check_size ocf_is_bounded kVf_is_bounded dcf_is_bounded pmf_is_bounded cdf_is_bounded ctf_is_bounded ocf_checked_integer kVf_checked_integer dcf_checked_integer pmf_checked_integer cdf_checked_integer ctf_checked_integer ocf_check_place kVf_check_place dcf_check_place pmf_check_place cdf_check_place ctf_check_place ocf_check_gap kVf_check_gap dcf_check_gap pmf_check_gap cdf_check_gap ctf_check_gap ocf_check_gaps kVf_check_gaps dcf_check_gaps pmf_check_gaps cdf_check_gaps ctf_check_gaps ocf_check_count kVf_check_count dcf_check_count pmf_check_count cdf_check_count ctf_check_count ocf_check_arguments kVf_check_arguments dcf_check_arguments pmf_check_arguments cdf_check_arguments ctf_check_arguments ocf_check_kind kVf_check_kind dcf_check_kind pmf_check_kind cdf_check_kind ctf_check_kind ocf_check_alike kVf_check_alike dcf_check_alike pmf_check_alike cdf_check_alike ctf_check_alike ocf_refuse_field kVf_refuse_field dcf_refuse_field pmf_refuse_field cdf_refuse_field ctf_refuse_field ocf_get_item kVf_get_item dcf_get_item pmf_get_item cdf_get_item ctf_get_item ocf_value_at kVf_value_at dcf_value_at pmf_value_at cdf_value_at ctf_value_at ocf_set_item kVf_set_item dcf_set_item pmf_set_item cdf_set_item ctf_set_item ocf_refuse_index kVf_refuse_index dcf_refuse_index pmf_refuse_index cdf_refuse_index ctf_refuse_index ocf_check_key kVf_check_key dcf_check_key pmf_check_key cdf_check_key ctf_check_key ocf_put_entry kVf_put_entry dcf_put_entry pmf_put_entry cdf_put_entry ctf_put_entry ocf_make_list kVf_make_list dcf_make_list pmf_make_list cdf_make_list ctf_make_list ocf_make_map kVf_make_map dcf_make_map pmf_make_map cdf_make_map ctf_make_map ocf_quoted kVf_quoted dcf_quoted pmf_quoted cdf_quoted ctf_quoted ocf_write_value kVf_write_value dcf_write_value pmf_write_value cdf_write_value ctf_write_value ocf_text_of kVf_text_of dcf_text_of pmf_text_of cdf_text_of ctf_text_of ocf_write kVf_write dcf_write pmf_write cdf_write ctf_write ocf_write_around kVf_write_around dcf_write_around pmf_write_around cdf_write_around ctf_write_around ocf_write_held kVf_write_held dcf_write_held pmf_write_held cdf_write_held ctf_write_held ocf_held_by kVf_held_by dcf_held_by pmf_held_by cdf_held_by ctf_held_by ocf_plain_form kVf_plain_form dcf_plain_form pmf_plain_form cdf_plain_form ctf_plain_form ocf_push kVf_push dcf_push pmf_push cdf_push ctf_push ocf_insert kVf_insert dcf_insert pmf_insert cdf_insert ctf_insert ocf_take_last kVf_take_last dcf_take_last pmf_take_last cdf_take_last ctf_take_last ocf_join kVf_join dcf_join pmf_join cdf_join ctf_join ocf_joined kVf_joined dcf_joined pmf_joined cdf_joined ctf_joined ocf_count kVf_count dcf_count pmf_count cdf_count ctf_count ocf_sort kVf_sort dcf_sort pmf_sort cdf_sort ctf_sort ocf_extend kVf_extend dcf_extend pmf_extend cdf_extend ctf_extend ocf_total kVf_total dcf_total pmf_total cdf_total ctf_total ocf_pair_up kVf_pair_up dcf_pair_up pmf_pair_up cdf_pair_up ctf_pair_up ocf_make_pairs kVf_make_pairs dcf_make_pairs pmf_make_pairs cdf_make_pairs ctf_make_pairs ocf_has kVf_has dcf_has pmf_has cdf_has ctf_has ocf_keys_of kVf_keys_of dcf_keys_of pmf_keys_of cdf_keys_of ctf_keys_of ocf_values_of kVf_values_of dcf_values_of pmf_values_of cdf_values_of ctf_values_of ocf_entries kVf_entries dcf_entries pmf_entries cdf_entries ctf_entries ocf_get kVf_get dcf_get pmf_get cdf_get ctf_get ocf_merge kVf_merge dcf_merge pmf_merge cdf_merge ctf_merge ocf_clear kVf_clear dcf_clear pmf_clear cdf_clear ctf_clear ocf_in_capitals kVf_in_capitals dcf_in_capitals pmf_in_capitals cdf_in_capitals ctf_in_capitals ocf_in_small_letters kVf_in_small_letters dcf_in_small_letters pmf_in_small_letters cdf_in_small_letters ctf_in_small_letters ocf_split kVf_split dcf_split pmf_split cdf_split ctf_split ocf_check_not_empty kVf_check_not_empty dcf_check_not_empty pmf_check_not_empty cdf_check_not_empty ctf_check_not_empty ocf_replace kVf_replace dcf_replace pmf_replace cdf_replace ctf_replace ocf_trim kVf_trim dcf_trim pmf_trim cdf_trim ctf_trim ocf_begins_with kVf_begins_with dcf_begins_with pmf_begins_with cdf_begins_with ctf_begins_with ocf_ends_with kVf_ends_with dcf_ends_with pmf_ends_with cdf_ends_with ctf_ends_with ocf_repeat_ kVf_repeat_ dcf_repeat_ pmf_repeat_ cdf_repeat_ ctf_repeat_ ocf_lines kVf_lines dcf_lines pmf_lines cdf_lines ctf_lines ocf_code kVf_code dcf_code pmf_code cdf_code ctf_code ocf_call_method kVf_call_method dcf_call_method pmf_call_method cdf_call_method ctf_call_method ocf_method_for kVf_method_for dcf_method_for pmf_method_for cdf_method_for ctf_method_for ocf_law_cell kVf_law_cell dcf_law_cell pmf_law_cell cdf_law_cell ctf_law_cell ocf_law_begin kVf_law_begin dcf_law_begin pmf_law_begin cdf_law_begin ctf_law_begin ocf_law_draw kVf_law_draw dcf_law_draw pmf_law_draw cdf_law_draw ctf_law_draw ocf_law_pick kVf_law_pick dcf_law_pick pmf_law_pick cdf_law_pick ctf_law_pick ocf_law_value kVf_law_value dcf_law_value pmf_law_value cdf_law_value ctf_law_value ocf_law_same kVf_law_same dcf_law_same pmf_law_same cdf_law_same ctf_law_same ocf_law_rows kVf_law_rows dcf_law_rows pmf_law_rows cdf_law_rows ctf_law_rows ocf_law_call kVf_law_call dcf_law_call pmf_law_call cdf_law_call ctf_law_call ocf_law_item kVf_law_item dcf_law_item pmf_law_item cdf_law_item ctf_law_item ocf_law_places kVf_law_places dcf_law_places pmf_law_places cdf_law_places ctf_law_places ocf_law_change kVf_law_change dcf_law_change pmf_law_change cdf_law_change ctf_law_change ocf_law_found kVf_law_found dcf_law_found pmf_law_found cdf_law_found ctf_law_found ocf_law_equal kVf_law_equal dcf_law_equal pmf_law_equal cdf_law_equal ctf_law_equal ocf_law_new kVf_law_new dcf_law_new pmf_law_new cdf_law_new ctf_law_new ocf_law_step kVf_law_step dcf_law_step pmf_law_step cdf_law_step ctf_law_step ocf_law_elements kVf_law_elements dcf_law_elements pmf_law_elements cdf_law_elements ctf_law_elements ocf_law_wrong kVf_law_wrong dcf_law_wrong pmf_law_wrong cdf_law_wrong ctf_law_wrong oclaw kVlaw dclaw pmlaw cdlaw ctlaw ocf_take_out_lists kVf_take_out_lists dcf_take_out_lists pmf_take_out_lists cdf_take_out_lists ctf_take_out_lists ocf_length_lists kVf_length_lists dcf_length_lists pmf_length_lists cdf_length_lists ctf_length_lists ocf_part_between_lists kVf_part_between_lists dcf_part_between_lists pmf_part_between_lists cdf_part_between_lists ctf_part_between_lists ocf_contains_lists kVf_contains_lists dcf_contains_lists pmf_contains_lists cdf_contains_lists ctf_contains_lists ocf_find_lists kVf_find_lists dcf_find_lists pmf_find_lists cdf_find_lists ctf_find_lists ocf_turn_around_lists kVf_turn_around_lists dcf_turn_around_lists pmf_turn_around_lists cdf_turn_around_lists ctf_turn_around_lists ocf_copy_lists kVf_copy_lists dcf_copy_lists pmf_copy_lists cdf_copy_lists ctf_copy_lists ocf_take_out_maps kVf_take_out_maps dcf_take_out_maps pmf_take_out_maps cdf_take_out_maps ctf_take_out_maps ocf_copy_maps kVf_copy_maps dcf_copy_maps pmf_copy_maps cdf_copy_maps ctf_copy_maps ocf_length_maps kVf_length_maps dcf_length_maps pmf_length_maps cdf_length_maps ctf_length_maps ocf_length_texts kVf_length_texts dcf_length_texts pmf_length_texts cdf_length_texts ctf_length_texts ocf_part_between_texts kVf_part_between_texts dcf_part_between_texts pmf_part_between_texts cdf_part_between_texts ctf_part_between_texts ocf_find_texts kVf_find_texts dcf_find_texts pmf_find_texts cdf_find_texts ctf_find_texts ocf_contains_texts kVf_contains_texts dcf_contains_texts pmf_contains_texts cdf_contains_texts ctf_contains_texts ocf_turn_around_texts kVf_turn_around_texts dcf_turn_around_texts pmf_turn_around_texts cdf_turn_around_texts ctf_turn_around_texts ocf_Ref_init kVf_Ref_init dcf_Ref_init pmf_Ref_init cdf_Ref_init ctf_Ref_init ocf_Ref_eq kVf_Ref_eq dcf_Ref_eq pmf_Ref_eq cdf_Ref_eq ctf_Ref_eq ocf_Parts_init kVf_Parts_init dcf_Parts_init pmf_Parts_init cdf_Parts_init ctf_Parts_init ocf_Table_init kVf_Table_init dcf_Table_init pmf_Table_init cdf_Table_init ctf_Table_init ocf_Table_has kVf_Table_has dcf_Table_has pmf_Table_has cdf_Table_has ctf_Table_has ocf_Table_value_of kVf_Table_value_of dcf_Table_value_of pmf_Table_value_of cdf_Table_value_of ctf_Table_value_of ocf_Table_put kVf_Table_put dcf_Table_put pmf_Table_put cdf_Table_put ctf_Table_put ocf_Table_take_out kVf_Table_take_out dcf_Table_take_out pmf_Table_take_out cdf_Table_take_out ctf_Table_take_out ocf_Table_pairs kVf_Table_pairs dcf_Table_pairs pmf_Table_pairs cdf_Table_pairs ctf_Table_pairs ocf_Table_many kVf_Table_many dcf_Table_many pmf_Table_many cdf_Table_many ctf_Table_many ocf_Instance_init kVf_Instance_init dcf_Instance_init pmf_Instance_init cdf_Instance_init ctf_Instance_init ocf_Kin_init kVf_Kin_init dcf_Kin_init pmf_Kin_init cdf_Kin_init ctf_Kin_init ocf_Form_init kVf_Form_init dcf_Form_init pmf_Form_init cdf_Form_init ctf_Form_init ocf_Form_add kVf_Form_add dcf_Form_add pmf_Form_add cdf_Form_add ctf_Form_add ocf_Form_is_enough kVf_Form_is_enough dcf_Form_is_enough pmf_Form_is_enough cdf_Form_is_enough ctf_Form_is_enough ocf_Store_init kVf_Store_init dcf_Store_init pmf_Store_init cdf_Store_init ctf_Store_init ocf_Store_make kVf_Store_make dcf_Store_make pmf_Store_make cdf_Store_make ctf_Store_make ocf_Store_at kVf_Store_at dcf_Store_at pmf_Store_at cdf_Store_at ctf_Store_at : Value}
    {cvsScriptError tI0 qI0 tI1 qI1 tI2 qI2 tI3 qI3 tI4 qI4 tI5 qI5 tI6 qI6 tI7 qI7 tI8 qI8 tI9 qI9 tI10 qI10 tI11 qI11 : Array Value}
    {tfScriptError tkMOST_HELD tkDOUBTFUL_BITS tkMOST_AROUND : Tok}
    {esLM : Array DictEntry}
    {nnLM tN0 qN0 tN1 qN1 tN2 qN2 tN3 qN3 tN4 qN4 tN5 qN5 tN6 qN6 tN7 qN7 tN8 qN8 tN9 qN9 tN10 qN10 tN11 qN11 : Nat}
    (uRef : PySem.W.nsIn K mainGlobals "Ref" = some (some (.ref cRef)))
    (mkRef : PySem.W.makesIn K cRef = true)
    (kcRef : PySem.W.keepIn K (.ref cRef) = true)
    (pgRef : PySem.W.plainGet K cRef Str.empty = true)
    (hdRef : PySem.W.hasDictIn K cRef = true)
    (poRef : PySem.W.plainOver K cRef = true)
    (saRef : PySem.W.findIn K (.ref cRef) "__setattr__" = some (some (.builtin "object.__setattr__")))
    (nRef_number : PySem.W.findIn K (.ref cRef) "number" = some none)
    (hnTy : PySem.W.specialIn K (.builtin "object.__class__") "__get__" = some (some (.builtin "getset_descriptor.__get__")))
    (htTy : PySem.W.takesIn K (.builtin "object.__class__") = some true)
    (haRef : PySem.W.findIn K (.ref cRef) "__class__" = some (some (.builtin "object.__class__")))
    (hmRef : PySem.W.mroIn K cRef (.type "object") = some true)
    (uParts : PySem.W.nsIn K mainGlobals "Parts" = some (some (.ref cParts)))
    (mkParts : PySem.W.makesIn K cParts = true)
    (kcParts : PySem.W.keepIn K (.ref cParts) = true)
    (pgParts : PySem.W.plainGet K cParts Str.empty = true)
    (hdParts : PySem.W.hasDictIn K cParts = true)
    (poParts : PySem.W.plainOver K cParts = true)
    (saParts : PySem.W.findIn K (.ref cParts) "__setattr__" = some (some (.builtin "object.__setattr__")))
    (nParts_held : PySem.W.findIn K (.ref cParts) "held" = some none)
    (haParts : PySem.W.findIn K (.ref cParts) "__class__" = some (some (.builtin "object.__class__")))
    (hmParts : PySem.W.mroIn K cParts (.type "object") = some true)
    (uTable : PySem.W.nsIn K mainGlobals "Table" = some (some (.ref cTable)))
    (mkTable : PySem.W.makesIn K cTable = true)
    (kcTable : PySem.W.keepIn K (.ref cTable) = true)
    (pgTable : PySem.W.plainGet K cTable Str.empty = true)
    (hdTable : PySem.W.hasDictIn K cTable = true)
    (poTable : PySem.W.plainOver K cTable = true)
    (saTable : PySem.W.findIn K (.ref cTable) "__setattr__" = some (some (.builtin "object.__setattr__")))
    (nTable__entries : PySem.W.findIn K (.ref cTable) "_entries" = some none)
    (haTable : PySem.W.findIn K (.ref cTable) "__class__" = some (some (.builtin "object.__class__")))
    (hmTable : PySem.W.mroIn K cTable (.type "object") = some true)
    (uInstance : PySem.W.nsIn K mainGlobals "Instance" = some (some (.ref cInstance)))
    (mkInstance : PySem.W.makesIn K cInstance = true)
    (kcInstance : PySem.W.keepIn K (.ref cInstance) = true)
    (pgInstance : PySem.W.plainGet K cInstance Str.empty = true)
    (hdInstance : PySem.W.hasDictIn K cInstance = true)
    (poInstance : PySem.W.plainOver K cInstance = true)
    (saInstance : PySem.W.findIn K (.ref cInstance) "__setattr__" = some (some (.builtin "object.__setattr__")))
    (nInstance_owner : PySem.W.findIn K (.ref cInstance) "owner" = some none)
    (nInstance_named : PySem.W.findIn K (.ref cInstance) "named" = some none)
    (haInstance : PySem.W.findIn K (.ref cInstance) "__class__" = some (some (.builtin "object.__class__")))
    (hmInstance : PySem.W.mroIn K cInstance (.type "object") = some true)
    (uKin : PySem.W.nsIn K mainGlobals "Kin" = some (some (.ref cKin)))
    (mkKin : PySem.W.makesIn K cKin = true)
    (kcKin : PySem.W.keepIn K (.ref cKin) = true)
    (pgKin : PySem.W.plainGet K cKin Str.empty = true)
    (hdKin : PySem.W.hasDictIn K cKin = true)
    (poKin : PySem.W.plainOver K cKin = true)
    (saKin : PySem.W.findIn K (.ref cKin) "__setattr__" = some (some (.builtin "object.__setattr__")))
    (nKin_name : PySem.W.findIn K (.ref cKin) "name" = some none)
    (nKin_parent : PySem.W.findIn K (.ref cKin) "parent" = some none)
    (nKin_methods : PySem.W.findIn K (.ref cKin) "methods" = some none)
    (haKin : PySem.W.findIn K (.ref cKin) "__class__" = some (some (.builtin "object.__class__")))
    (hmKin : PySem.W.mroIn K cKin (.type "object") = some true)
    (uForm : PySem.W.nsIn K mainGlobals "Form" = some (some (.ref cForm)))
    (mkForm : PySem.W.makesIn K cForm = true)
    (kcForm : PySem.W.keepIn K (.ref cForm) = true)
    (pgForm : PySem.W.plainGet K cForm Str.empty = true)
    (hdForm : PySem.W.hasDictIn K cForm = true)
    (poForm : PySem.W.plainOver K cForm = true)
    (saForm : PySem.W.findIn K (.ref cForm) "__setattr__" = some (some (.builtin "object.__setattr__")))
    (nForm_store : PySem.W.findIn K (.ref cForm) "store" = some none)
    (nForm_most : PySem.W.findIn K (.ref cForm) "most" = some none)
    (nForm_pieces : PySem.W.findIn K (.ref cForm) "pieces" = some none)
    (nForm_size : PySem.W.findIn K (.ref cForm) "size" = some none)
    (nForm_around : PySem.W.findIn K (.ref cForm) "around" = some none)
    (haForm : PySem.W.findIn K (.ref cForm) "__class__" = some (some (.builtin "object.__class__")))
    (hmForm : PySem.W.mroIn K cForm (.type "object") = some true)
    (uStore : PySem.W.nsIn K mainGlobals "Store" = some (some (.ref cStore)))
    (mkStore : PySem.W.makesIn K cStore = true)
    (kcStore : PySem.W.keepIn K (.ref cStore) = true)
    (pgStore : PySem.W.plainGet K cStore Str.empty = true)
    (hdStore : PySem.W.hasDictIn K cStore = true)
    (poStore : PySem.W.plainOver K cStore = true)
    (saStore : PySem.W.findIn K (.ref cStore) "__setattr__" = some (some (.builtin "object.__setattr__")))
    (nStore_things : PySem.W.findIn K (.ref cStore) "things" = some none)
    (nStore_output : PySem.W.findIn K (.ref cStore) "output" = some none)
    (nStore_lines : PySem.W.findIn K (.ref cStore) "lines" = some none)
    (nStore_taken : PySem.W.findIn K (.ref cStore) "taken" = some none)
    (haStore : PySem.W.findIn K (.ref cStore) "__class__" = some (some (.builtin "object.__class__")))
    (hmStore : PySem.W.mroIn K cStore (.type "object") = some true)
    (uLivequillError : PySem.W.nsIn K mainGlobals "LivequillError" = some (some (.ref cLivequillError)))
    (uScriptError : PySem.W.nsIn K mainGlobals "ScriptError" = some (some (.ref cScriptError)))
    (xScriptError : K.lookup cScriptError = some (excClassObj nmScriptError qScriptError cScriptError NScriptError bsScriptError [.ref cLivequillError, .type "ValueError", .type "Exception", .type "BaseException", .type "object"] true snScriptError subScriptError abScriptError colScriptError ddScriptError m0ScriptError m1ScriptError m2ScriptError m3ScriptError m5ScriptError "ValueError.__new__"))
    (saScriptError : PySem.W.findIn K (.ref cScriptError) "__setattr__" = some (some (.builtin "object.__setattr__")))
    (exScriptError : PySem.W.subIn K (.ref cScriptError) (.type "BaseException") = some true)
    (tpScriptError : PySem.W.typeIn K (.ref cScriptError) = some (.type "type"))
    (kpScriptError : PySem.W.keepIn K (.ref cScriptError) = true)
    (n1ScriptError : PySem.W.findIn K (.ref cScriptError) "kind" = some none)
    (n2ScriptError : PySem.W.findIn K (.ref cScriptError) "message" = some none)
    (iScriptError : PySem.W.findIn K (.ref cScriptError) "__init__" = some (some (.ref fScriptError)))
    (tiScriptError : PySem.W.typeIn K (.ref fScriptError) = some (.type "function"))
    (gaScriptError : PySem.W.findIn K (.ref cScriptError) "__getattribute__" = some (some (.builtin "BaseException.__getattribute__")))
    (ggScriptError : PySem.W.findIn K (.ref cScriptError) "__getattr__" = some none)
    (hdScriptError : PySem.W.hasDictIn K cScriptError = true)
    (ssScriptError : PySem.W.subIn K (.ref cScriptError) (.ref cScriptError) = some true)
    (liScriptError : K.lookup fScriptError = some ⟨ocScriptError, odScriptError, .func (PySem.W.ksFn "__init__" "ScriptError.__init__" (defArgs sx_ScriptError) (defBody sx_ScriptError) (defScope sx_ScriptError) .none kVScriptError dcScriptError pmScriptError anScriptError (.ref cdaScriptError) ctScriptError ccScriptError), slScriptError⟩)
    (ciScriptError : PySem.W.codeIn K (.ref cdaScriptError) "ScriptError.__init__" = true)
    (coScriptError : K.lookup cdaScriptError = some ⟨cclScriptError, cddScriptError, .fields cvsScriptError, ccsScriptError⟩)
    (cvScriptError : cvsScriptError[2]? = some (.str flScriptError tfScriptError))
    (fiScriptError : ((l.prog.main.file : Str) == flScriptError) = true)
    (ceScriptError : K.lookup ccScriptError = some ⟨cl_ScriptError, cldScriptError, .cell (some (.ref cScriptError)), cslScriptError⟩)
    (toSup : (l.prog.main.scope.names.lookup ("super" : Str)).isSome = false)
    (suSup : PySem.W.nsIn K mainGlobals "super" = some none)
    (opSup : PySem.W.nsIn K PySem.cStatics "thirdparty.any" = some none)
    (mrScriptError : PySem.W.mroIn K cScriptError (.ref cScriptError) = some true)
    (ksScriptError : PySem.W.ks_superIn K cScriptError cScriptError "__init__" = some (some (.builtin "ValueError.__init__")))
    (vaScriptError : PySem.W.subIn K (.ref cScriptError) (.type "ValueError") = some true)
    (haScriptError : PySem.W.findIn K (.ref cScriptError) "__class__" = some (some (.builtin "object.__class__")))
    (hmScriptError : PySem.W.mroIn K cScriptError (.type "object") = some true)
    (klScriptErrorLivequillError : PySem.W.kitOne K (.ref cScriptError) (.ref cLivequillError) = some true)
    (af_tagged : PySem.W.nsIn K mainGlobals "tagged" = some (some (.ref a_tagged)))
    (lf_tagged : K.lookup a_tagged = some ⟨ocf_tagged, odf_tagged, .func (PySem.W.fnOf "tagged" "tagged" (defArgs s_tagged) (defBody s_tagged) (defScope s_tagged) .none kVf_tagged dcf_tagged pmf_tagged anf_tagged cdf_tagged ctf_tagged), slf_tagged⟩)
    (cf_tagged : PySem.W.codeIn K cdf_tagged "tagged" = true)
    (kf_tagged : PySem.W.keepIn K (.ref a_tagged) = true)
    (af_kind_of : PySem.W.nsIn K mainGlobals "kind_of" = some (some (.ref a_kind_of)))
    (lf_kind_of : K.lookup a_kind_of = some ⟨ocf_kind_of, odf_kind_of, .func (PySem.W.fnOf "kind_of" "kind_of" (defArgs s_kind_of) (defBody s_kind_of) (defScope s_kind_of) .none kVf_kind_of dcf_kind_of pmf_kind_of anf_kind_of cdf_kind_of ctf_kind_of), slf_kind_of⟩)
    (cf_kind_of : PySem.W.codeIn K cdf_kind_of "kind_of" = true)
    (kf_kind_of : PySem.W.keepIn K (.ref a_kind_of) = true)
    (af_kind_of_thing : PySem.W.nsIn K mainGlobals "kind_of_thing" = some (some (.ref a_kind_of_thing)))
    (lf_kind_of_thing : K.lookup a_kind_of_thing = some ⟨ocf_kind_of_thing, odf_kind_of_thing, .func (PySem.W.fnOf "kind_of_thing" "kind_of_thing" (defArgs s_kind_of_thing) (defBody s_kind_of_thing) (defScope s_kind_of_thing) .none kVf_kind_of_thing dcf_kind_of_thing pmf_kind_of_thing anf_kind_of_thing cdf_kind_of_thing ctf_kind_of_thing), slf_kind_of_thing⟩)
    (cf_kind_of_thing : PySem.W.codeIn K cdf_kind_of_thing "kind_of_thing" = true)
    (kf_kind_of_thing : PySem.W.keepIn K (.ref a_kind_of_thing) = true)
    (af_equal : PySem.W.nsIn K mainGlobals "equal" = some (some (.ref a_equal)))
    (lf_equal : K.lookup a_equal = some ⟨ocf_equal, odf_equal, .func (PySem.W.fnOf "equal" "equal" (defArgs s_equal) (defBody s_equal) (defScope s_equal) .none kVf_equal dcf_equal pmf_equal anf_equal cdf_equal ctf_equal), slf_equal⟩)
    (cf_equal : PySem.W.codeIn K cdf_equal "equal" = true)
    (kf_equal : PySem.W.keepIn K (.ref a_equal) = true)
    (af_is_key : PySem.W.nsIn K mainGlobals "is_key" = some (some (.ref a_is_key)))
    (lf_is_key : K.lookup a_is_key = some ⟨ocf_is_key, odf_is_key, .func (PySem.W.fnOf "is_key" "is_key" (defArgs s_is_key) (defBody s_is_key) (defScope s_is_key) .none kVf_is_key dcf_is_key pmf_is_key anf_is_key cdf_is_key ctf_is_key), slf_is_key⟩)
    (cf_is_key : PySem.W.codeIn K cdf_is_key "is_key" = true)
    (kf_is_key : PySem.W.keepIn K (.ref a_is_key) = true)
    (af_check_size : PySem.W.nsIn K mainGlobals "check_size" = some (some (.ref a_check_size)))
    (lf_check_size : K.lookup a_check_size = some ⟨ocf_check_size, odf_check_size, .func (PySem.W.fnOf "check_size" "check_size" (defArgs s_check_size) (defBody s_check_size) (defScope s_check_size) .none kVf_check_size dcf_check_size pmf_check_size anf_check_size cdf_check_size ctf_check_size), slf_check_size⟩)
    (cf_check_size : PySem.W.codeIn K cdf_check_size "check_size" = true)
    (kf_check_size : PySem.W.keepIn K (.ref a_check_size) = true)
    (af_is_bounded : PySem.W.nsIn K mainGlobals "is_bounded" = some (some (.ref a_is_bounded)))
    (lf_is_bounded : K.lookup a_is_bounded = some ⟨ocf_is_bounded, odf_is_bounded, .func (PySem.W.fnOf "is_bounded" "is_bounded" (defArgs s_is_bounded) (defBody s_is_bounded) (defScope s_is_bounded) .none kVf_is_bounded dcf_is_bounded pmf_is_bounded anf_is_bounded cdf_is_bounded ctf_is_bounded), slf_is_bounded⟩)
    (cf_is_bounded : PySem.W.codeIn K cdf_is_bounded "is_bounded" = true)
    (kf_is_bounded : PySem.W.keepIn K (.ref a_is_bounded) = true)
    (af_checked_integer : PySem.W.nsIn K mainGlobals "checked_integer" = some (some (.ref a_checked_integer)))
    (lf_checked_integer : K.lookup a_checked_integer = some ⟨ocf_checked_integer, odf_checked_integer, .func (PySem.W.fnOf "checked_integer" "checked_integer" (defArgs s_checked_integer) (defBody s_checked_integer) (defScope s_checked_integer) .none kVf_checked_integer dcf_checked_integer pmf_checked_integer anf_checked_integer cdf_checked_integer ctf_checked_integer), slf_checked_integer⟩)
    (cf_checked_integer : PySem.W.codeIn K cdf_checked_integer "checked_integer" = true)
    (kf_checked_integer : PySem.W.keepIn K (.ref a_checked_integer) = true)
    (af_check_place : PySem.W.nsIn K mainGlobals "check_place" = some (some (.ref a_check_place)))
    (lf_check_place : K.lookup a_check_place = some ⟨ocf_check_place, odf_check_place, .func (PySem.W.fnOf "check_place" "check_place" (defArgs s_check_place) (defBody s_check_place) (defScope s_check_place) .none kVf_check_place dcf_check_place pmf_check_place anf_check_place cdf_check_place ctf_check_place), slf_check_place⟩)
    (cf_check_place : PySem.W.codeIn K cdf_check_place "check_place" = true)
    (kf_check_place : PySem.W.keepIn K (.ref a_check_place) = true)
    (af_check_gap : PySem.W.nsIn K mainGlobals "check_gap" = some (some (.ref a_check_gap)))
    (lf_check_gap : K.lookup a_check_gap = some ⟨ocf_check_gap, odf_check_gap, .func (PySem.W.fnOf "check_gap" "check_gap" (defArgs s_check_gap) (defBody s_check_gap) (defScope s_check_gap) .none kVf_check_gap dcf_check_gap pmf_check_gap anf_check_gap cdf_check_gap ctf_check_gap), slf_check_gap⟩)
    (cf_check_gap : PySem.W.codeIn K cdf_check_gap "check_gap" = true)
    (kf_check_gap : PySem.W.keepIn K (.ref a_check_gap) = true)
    (af_check_gaps : PySem.W.nsIn K mainGlobals "check_gaps" = some (some (.ref a_check_gaps)))
    (lf_check_gaps : K.lookup a_check_gaps = some ⟨ocf_check_gaps, odf_check_gaps, .func (PySem.W.fnOf "check_gaps" "check_gaps" (defArgs s_check_gaps) (defBody s_check_gaps) (defScope s_check_gaps) .none kVf_check_gaps dcf_check_gaps pmf_check_gaps anf_check_gaps cdf_check_gaps ctf_check_gaps), slf_check_gaps⟩)
    (cf_check_gaps : PySem.W.codeIn K cdf_check_gaps "check_gaps" = true)
    (kf_check_gaps : PySem.W.keepIn K (.ref a_check_gaps) = true)
    (af_check_count : PySem.W.nsIn K mainGlobals "check_count" = some (some (.ref a_check_count)))
    (lf_check_count : K.lookup a_check_count = some ⟨ocf_check_count, odf_check_count, .func (PySem.W.fnOf "check_count" "check_count" (defArgs s_check_count) (defBody s_check_count) (defScope s_check_count) .none kVf_check_count dcf_check_count pmf_check_count anf_check_count cdf_check_count ctf_check_count), slf_check_count⟩)
    (cf_check_count : PySem.W.codeIn K cdf_check_count "check_count" = true)
    (kf_check_count : PySem.W.keepIn K (.ref a_check_count) = true)
    (af_check_arguments : PySem.W.nsIn K mainGlobals "check_arguments" = some (some (.ref a_check_arguments)))
    (lf_check_arguments : K.lookup a_check_arguments = some ⟨ocf_check_arguments, odf_check_arguments, .func (PySem.W.fnOf "check_arguments" "check_arguments" (defArgs s_check_arguments) (defBody s_check_arguments) (defScope s_check_arguments) .none kVf_check_arguments dcf_check_arguments pmf_check_arguments anf_check_arguments cdf_check_arguments ctf_check_arguments), slf_check_arguments⟩)
    (cf_check_arguments : PySem.W.codeIn K cdf_check_arguments "check_arguments" = true)
    (kf_check_arguments : PySem.W.keepIn K (.ref a_check_arguments) = true)
    (af_check_kind : PySem.W.nsIn K mainGlobals "check_kind" = some (some (.ref a_check_kind)))
    (lf_check_kind : K.lookup a_check_kind = some ⟨ocf_check_kind, odf_check_kind, .func (PySem.W.fnOf "check_kind" "check_kind" (defArgs s_check_kind) (defBody s_check_kind) (defScope s_check_kind) .none kVf_check_kind dcf_check_kind pmf_check_kind anf_check_kind cdf_check_kind ctf_check_kind), slf_check_kind⟩)
    (cf_check_kind : PySem.W.codeIn K cdf_check_kind "check_kind" = true)
    (kf_check_kind : PySem.W.keepIn K (.ref a_check_kind) = true)
    (af_check_alike : PySem.W.nsIn K mainGlobals "check_alike" = some (some (.ref a_check_alike)))
    (lf_check_alike : K.lookup a_check_alike = some ⟨ocf_check_alike, odf_check_alike, .func (PySem.W.fnOf "check_alike" "check_alike" (defArgs s_check_alike) (defBody s_check_alike) (defScope s_check_alike) .none kVf_check_alike dcf_check_alike pmf_check_alike anf_check_alike cdf_check_alike ctf_check_alike), slf_check_alike⟩)
    (cf_check_alike : PySem.W.codeIn K cdf_check_alike "check_alike" = true)
    (kf_check_alike : PySem.W.keepIn K (.ref a_check_alike) = true)
    (af_refuse_field : PySem.W.nsIn K mainGlobals "refuse_field" = some (some (.ref a_refuse_field)))
    (lf_refuse_field : K.lookup a_refuse_field = some ⟨ocf_refuse_field, odf_refuse_field, .func (PySem.W.fnOf "refuse_field" "refuse_field" (defArgs s_refuse_field) (defBody s_refuse_field) (defScope s_refuse_field) .none kVf_refuse_field dcf_refuse_field pmf_refuse_field anf_refuse_field cdf_refuse_field ctf_refuse_field), slf_refuse_field⟩)
    (cf_refuse_field : PySem.W.codeIn K cdf_refuse_field "refuse_field" = true)
    (kf_refuse_field : PySem.W.keepIn K (.ref a_refuse_field) = true)
    (af_get_item : PySem.W.nsIn K mainGlobals "get_item" = some (some (.ref a_get_item)))
    (lf_get_item : K.lookup a_get_item = some ⟨ocf_get_item, odf_get_item, .func (PySem.W.fnOf "get_item" "get_item" (defArgs s_get_item) (defBody s_get_item) (defScope s_get_item) .none kVf_get_item dcf_get_item pmf_get_item anf_get_item cdf_get_item ctf_get_item), slf_get_item⟩)
    (cf_get_item : PySem.W.codeIn K cdf_get_item "get_item" = true)
    (kf_get_item : PySem.W.keepIn K (.ref a_get_item) = true)
    (af_value_at : PySem.W.nsIn K mainGlobals "value_at" = some (some (.ref a_value_at)))
    (lf_value_at : K.lookup a_value_at = some ⟨ocf_value_at, odf_value_at, .func (PySem.W.fnOf "value_at" "value_at" (defArgs s_value_at) (defBody s_value_at) (defScope s_value_at) .none kVf_value_at dcf_value_at pmf_value_at anf_value_at cdf_value_at ctf_value_at), slf_value_at⟩)
    (cf_value_at : PySem.W.codeIn K cdf_value_at "value_at" = true)
    (kf_value_at : PySem.W.keepIn K (.ref a_value_at) = true)
    (af_set_item : PySem.W.nsIn K mainGlobals "set_item" = some (some (.ref a_set_item)))
    (lf_set_item : K.lookup a_set_item = some ⟨ocf_set_item, odf_set_item, .func (PySem.W.fnOf "set_item" "set_item" (defArgs s_set_item) (defBody s_set_item) (defScope s_set_item) .none kVf_set_item dcf_set_item pmf_set_item anf_set_item cdf_set_item ctf_set_item), slf_set_item⟩)
    (cf_set_item : PySem.W.codeIn K cdf_set_item "set_item" = true)
    (kf_set_item : PySem.W.keepIn K (.ref a_set_item) = true)
    (af_refuse_index : PySem.W.nsIn K mainGlobals "refuse_index" = some (some (.ref a_refuse_index)))
    (lf_refuse_index : K.lookup a_refuse_index = some ⟨ocf_refuse_index, odf_refuse_index, .func (PySem.W.fnOf "refuse_index" "refuse_index" (defArgs s_refuse_index) (defBody s_refuse_index) (defScope s_refuse_index) .none kVf_refuse_index dcf_refuse_index pmf_refuse_index anf_refuse_index cdf_refuse_index ctf_refuse_index), slf_refuse_index⟩)
    (cf_refuse_index : PySem.W.codeIn K cdf_refuse_index "refuse_index" = true)
    (kf_refuse_index : PySem.W.keepIn K (.ref a_refuse_index) = true)
    (af_check_key : PySem.W.nsIn K mainGlobals "check_key" = some (some (.ref a_check_key)))
    (lf_check_key : K.lookup a_check_key = some ⟨ocf_check_key, odf_check_key, .func (PySem.W.fnOf "check_key" "check_key" (defArgs s_check_key) (defBody s_check_key) (defScope s_check_key) .none kVf_check_key dcf_check_key pmf_check_key anf_check_key cdf_check_key ctf_check_key), slf_check_key⟩)
    (cf_check_key : PySem.W.codeIn K cdf_check_key "check_key" = true)
    (kf_check_key : PySem.W.keepIn K (.ref a_check_key) = true)
    (af_put_entry : PySem.W.nsIn K mainGlobals "put_entry" = some (some (.ref a_put_entry)))
    (lf_put_entry : K.lookup a_put_entry = some ⟨ocf_put_entry, odf_put_entry, .func (PySem.W.fnOf "put_entry" "put_entry" (defArgs s_put_entry) (defBody s_put_entry) (defScope s_put_entry) .none kVf_put_entry dcf_put_entry pmf_put_entry anf_put_entry cdf_put_entry ctf_put_entry), slf_put_entry⟩)
    (cf_put_entry : PySem.W.codeIn K cdf_put_entry "put_entry" = true)
    (kf_put_entry : PySem.W.keepIn K (.ref a_put_entry) = true)
    (af_make_list : PySem.W.nsIn K mainGlobals "make_list" = some (some (.ref a_make_list)))
    (lf_make_list : K.lookup a_make_list = some ⟨ocf_make_list, odf_make_list, .func (PySem.W.fnOf "make_list" "make_list" (defArgs s_make_list) (defBody s_make_list) (defScope s_make_list) .none kVf_make_list dcf_make_list pmf_make_list anf_make_list cdf_make_list ctf_make_list), slf_make_list⟩)
    (cf_make_list : PySem.W.codeIn K cdf_make_list "make_list" = true)
    (kf_make_list : PySem.W.keepIn K (.ref a_make_list) = true)
    (af_make_map : PySem.W.nsIn K mainGlobals "make_map" = some (some (.ref a_make_map)))
    (lf_make_map : K.lookup a_make_map = some ⟨ocf_make_map, odf_make_map, .func (PySem.W.fnOf "make_map" "make_map" (defArgs s_make_map) (defBody s_make_map) (defScope s_make_map) .none kVf_make_map dcf_make_map pmf_make_map anf_make_map cdf_make_map ctf_make_map), slf_make_map⟩)
    (cf_make_map : PySem.W.codeIn K cdf_make_map "make_map" = true)
    (kf_make_map : PySem.W.keepIn K (.ref a_make_map) = true)
    (af_quoted : PySem.W.nsIn K mainGlobals "quoted" = some (some (.ref a_quoted)))
    (lf_quoted : K.lookup a_quoted = some ⟨ocf_quoted, odf_quoted, .func (PySem.W.fnOf "quoted" "quoted" (defArgs s_quoted) (defBody s_quoted) (defScope s_quoted) .none kVf_quoted dcf_quoted pmf_quoted anf_quoted cdf_quoted ctf_quoted), slf_quoted⟩)
    (cf_quoted : PySem.W.codeIn K cdf_quoted "quoted" = true)
    (kf_quoted : PySem.W.keepIn K (.ref a_quoted) = true)
    (af_write_value : PySem.W.nsIn K mainGlobals "write_value" = some (some (.ref a_write_value)))
    (lf_write_value : K.lookup a_write_value = some ⟨ocf_write_value, odf_write_value, .func (PySem.W.fnOf "write_value" "write_value" (defArgs s_write_value) (defBody s_write_value) (defScope s_write_value) .none kVf_write_value dcf_write_value pmf_write_value anf_write_value cdf_write_value ctf_write_value), slf_write_value⟩)
    (cf_write_value : PySem.W.codeIn K cdf_write_value "write_value" = true)
    (kf_write_value : PySem.W.keepIn K (.ref a_write_value) = true)
    (af_text_of : PySem.W.nsIn K mainGlobals "text_of" = some (some (.ref a_text_of)))
    (lf_text_of : K.lookup a_text_of = some ⟨ocf_text_of, odf_text_of, .func (PySem.W.fnOf "text_of" "text_of" (defArgs s_text_of) (defBody s_text_of) (defScope s_text_of) .none kVf_text_of dcf_text_of pmf_text_of anf_text_of cdf_text_of ctf_text_of), slf_text_of⟩)
    (cf_text_of : PySem.W.codeIn K cdf_text_of "text_of" = true)
    (kf_text_of : PySem.W.keepIn K (.ref a_text_of) = true)
    (af_write : PySem.W.nsIn K mainGlobals "write" = some (some (.ref a_write)))
    (lf_write : K.lookup a_write = some ⟨ocf_write, odf_write, .func (PySem.W.fnOf "write" "write" (defArgs s_write) (defBody s_write) (defScope s_write) .none kVf_write dcf_write pmf_write anf_write cdf_write ctf_write), slf_write⟩)
    (cf_write : PySem.W.codeIn K cdf_write "write" = true)
    (kf_write : PySem.W.keepIn K (.ref a_write) = true)
    (af_write_around : PySem.W.nsIn K mainGlobals "write_around" = some (some (.ref a_write_around)))
    (lf_write_around : K.lookup a_write_around = some ⟨ocf_write_around, odf_write_around, .func (PySem.W.fnOf "write_around" "write_around" (defArgs s_write_around) (defBody s_write_around) (defScope s_write_around) .none kVf_write_around dcf_write_around pmf_write_around anf_write_around cdf_write_around ctf_write_around), slf_write_around⟩)
    (cf_write_around : PySem.W.codeIn K cdf_write_around "write_around" = true)
    (kf_write_around : PySem.W.keepIn K (.ref a_write_around) = true)
    (af_write_held : PySem.W.nsIn K mainGlobals "write_held" = some (some (.ref a_write_held)))
    (lf_write_held : K.lookup a_write_held = some ⟨ocf_write_held, odf_write_held, .func (PySem.W.fnOf "write_held" "write_held" (defArgs s_write_held) (defBody s_write_held) (defScope s_write_held) .none kVf_write_held dcf_write_held pmf_write_held anf_write_held cdf_write_held ctf_write_held), slf_write_held⟩)
    (cf_write_held : PySem.W.codeIn K cdf_write_held "write_held" = true)
    (kf_write_held : PySem.W.keepIn K (.ref a_write_held) = true)
    (af_held_by : PySem.W.nsIn K mainGlobals "held_by" = some (some (.ref a_held_by)))
    (lf_held_by : K.lookup a_held_by = some ⟨ocf_held_by, odf_held_by, .func (PySem.W.fnOf "held_by" "held_by" (defArgs s_held_by) (defBody s_held_by) (defScope s_held_by) .none kVf_held_by dcf_held_by pmf_held_by anf_held_by cdf_held_by ctf_held_by), slf_held_by⟩)
    (cf_held_by : PySem.W.codeIn K cdf_held_by "held_by" = true)
    (kf_held_by : PySem.W.keepIn K (.ref a_held_by) = true)
    (af_plain_form : PySem.W.nsIn K mainGlobals "plain_form" = some (some (.ref a_plain_form)))
    (lf_plain_form : K.lookup a_plain_form = some ⟨ocf_plain_form, odf_plain_form, .func (PySem.W.fnOf "plain_form" "plain_form" (defArgs s_plain_form) (defBody s_plain_form) (defScope s_plain_form) .none kVf_plain_form dcf_plain_form pmf_plain_form anf_plain_form cdf_plain_form ctf_plain_form), slf_plain_form⟩)
    (cf_plain_form : PySem.W.codeIn K cdf_plain_form "plain_form" = true)
    (kf_plain_form : PySem.W.keepIn K (.ref a_plain_form) = true)
    (af_push : PySem.W.nsIn K mainGlobals "push" = some (some (.ref a_push)))
    (lf_push : K.lookup a_push = some ⟨ocf_push, odf_push, .func (PySem.W.fnOf "push" "push" (defArgs s_push) (defBody s_push) (defScope s_push) .none kVf_push dcf_push pmf_push anf_push cdf_push ctf_push), slf_push⟩)
    (cf_push : PySem.W.codeIn K cdf_push "push" = true)
    (kf_push : PySem.W.keepIn K (.ref a_push) = true)
    (af_insert : PySem.W.nsIn K mainGlobals "insert" = some (some (.ref a_insert)))
    (lf_insert : K.lookup a_insert = some ⟨ocf_insert, odf_insert, .func (PySem.W.fnOf "insert" "insert" (defArgs s_insert) (defBody s_insert) (defScope s_insert) .none kVf_insert dcf_insert pmf_insert anf_insert cdf_insert ctf_insert), slf_insert⟩)
    (cf_insert : PySem.W.codeIn K cdf_insert "insert" = true)
    (kf_insert : PySem.W.keepIn K (.ref a_insert) = true)
    (af_take_last : PySem.W.nsIn K mainGlobals "take_last" = some (some (.ref a_take_last)))
    (lf_take_last : K.lookup a_take_last = some ⟨ocf_take_last, odf_take_last, .func (PySem.W.fnOf "take_last" "take_last" (defArgs s_take_last) (defBody s_take_last) (defScope s_take_last) .none kVf_take_last dcf_take_last pmf_take_last anf_take_last cdf_take_last ctf_take_last), slf_take_last⟩)
    (cf_take_last : PySem.W.codeIn K cdf_take_last "take_last" = true)
    (kf_take_last : PySem.W.keepIn K (.ref a_take_last) = true)
    (af_join : PySem.W.nsIn K mainGlobals "join" = some (some (.ref a_join)))
    (lf_join : K.lookup a_join = some ⟨ocf_join, odf_join, .func (PySem.W.fnOf "join" "join" (defArgs s_join) (defBody s_join) (defScope s_join) .none kVf_join dcf_join pmf_join anf_join cdf_join ctf_join), slf_join⟩)
    (cf_join : PySem.W.codeIn K cdf_join "join" = true)
    (kf_join : PySem.W.keepIn K (.ref a_join) = true)
    (af_joined : PySem.W.nsIn K mainGlobals "joined" = some (some (.ref a_joined)))
    (lf_joined : K.lookup a_joined = some ⟨ocf_joined, odf_joined, .func (PySem.W.fnOf "joined" "joined" (defArgs s_joined) (defBody s_joined) (defScope s_joined) .none kVf_joined dcf_joined pmf_joined anf_joined cdf_joined ctf_joined), slf_joined⟩)
    (cf_joined : PySem.W.codeIn K cdf_joined "joined" = true)
    (kf_joined : PySem.W.keepIn K (.ref a_joined) = true)
    (af_count : PySem.W.nsIn K mainGlobals "count" = some (some (.ref a_count)))
    (lf_count : K.lookup a_count = some ⟨ocf_count, odf_count, .func (PySem.W.fnOf "count" "count" (defArgs s_count) (defBody s_count) (defScope s_count) .none kVf_count dcf_count pmf_count anf_count cdf_count ctf_count), slf_count⟩)
    (cf_count : PySem.W.codeIn K cdf_count "count" = true)
    (kf_count : PySem.W.keepIn K (.ref a_count) = true)
    (af_sort : PySem.W.nsIn K mainGlobals "sort" = some (some (.ref a_sort)))
    (lf_sort : K.lookup a_sort = some ⟨ocf_sort, odf_sort, .func (PySem.W.fnOf "sort" "sort" (defArgs s_sort) (defBody s_sort) (defScope s_sort) .none kVf_sort dcf_sort pmf_sort anf_sort cdf_sort ctf_sort), slf_sort⟩)
    (cf_sort : PySem.W.codeIn K cdf_sort "sort" = true)
    (kf_sort : PySem.W.keepIn K (.ref a_sort) = true)
    (af_extend : PySem.W.nsIn K mainGlobals "extend" = some (some (.ref a_extend)))
    (lf_extend : K.lookup a_extend = some ⟨ocf_extend, odf_extend, .func (PySem.W.fnOf "extend" "extend" (defArgs s_extend) (defBody s_extend) (defScope s_extend) .none kVf_extend dcf_extend pmf_extend anf_extend cdf_extend ctf_extend), slf_extend⟩)
    (cf_extend : PySem.W.codeIn K cdf_extend "extend" = true)
    (kf_extend : PySem.W.keepIn K (.ref a_extend) = true)
    (af_total : PySem.W.nsIn K mainGlobals "total" = some (some (.ref a_total)))
    (lf_total : K.lookup a_total = some ⟨ocf_total, odf_total, .func (PySem.W.fnOf "total" "total" (defArgs s_total) (defBody s_total) (defScope s_total) .none kVf_total dcf_total pmf_total anf_total cdf_total ctf_total), slf_total⟩)
    (cf_total : PySem.W.codeIn K cdf_total "total" = true)
    (kf_total : PySem.W.keepIn K (.ref a_total) = true)
    (af_pair_up : PySem.W.nsIn K mainGlobals "pair_up" = some (some (.ref a_pair_up)))
    (lf_pair_up : K.lookup a_pair_up = some ⟨ocf_pair_up, odf_pair_up, .func (PySem.W.fnOf "pair_up" "pair_up" (defArgs s_pair_up) (defBody s_pair_up) (defScope s_pair_up) .none kVf_pair_up dcf_pair_up pmf_pair_up anf_pair_up cdf_pair_up ctf_pair_up), slf_pair_up⟩)
    (cf_pair_up : PySem.W.codeIn K cdf_pair_up "pair_up" = true)
    (kf_pair_up : PySem.W.keepIn K (.ref a_pair_up) = true)
    (af_make_pairs : PySem.W.nsIn K mainGlobals "make_pairs" = some (some (.ref a_make_pairs)))
    (lf_make_pairs : K.lookup a_make_pairs = some ⟨ocf_make_pairs, odf_make_pairs, .func (PySem.W.fnOf "make_pairs" "make_pairs" (defArgs s_make_pairs) (defBody s_make_pairs) (defScope s_make_pairs) .none kVf_make_pairs dcf_make_pairs pmf_make_pairs anf_make_pairs cdf_make_pairs ctf_make_pairs), slf_make_pairs⟩)
    (cf_make_pairs : PySem.W.codeIn K cdf_make_pairs "make_pairs" = true)
    (kf_make_pairs : PySem.W.keepIn K (.ref a_make_pairs) = true)
    (af_has : PySem.W.nsIn K mainGlobals "has" = some (some (.ref a_has)))
    (lf_has : K.lookup a_has = some ⟨ocf_has, odf_has, .func (PySem.W.fnOf "has" "has" (defArgs s_has) (defBody s_has) (defScope s_has) .none kVf_has dcf_has pmf_has anf_has cdf_has ctf_has), slf_has⟩)
    (cf_has : PySem.W.codeIn K cdf_has "has" = true)
    (kf_has : PySem.W.keepIn K (.ref a_has) = true)
    (af_keys_of : PySem.W.nsIn K mainGlobals "keys_of" = some (some (.ref a_keys_of)))
    (lf_keys_of : K.lookup a_keys_of = some ⟨ocf_keys_of, odf_keys_of, .func (PySem.W.fnOf "keys_of" "keys_of" (defArgs s_keys_of) (defBody s_keys_of) (defScope s_keys_of) .none kVf_keys_of dcf_keys_of pmf_keys_of anf_keys_of cdf_keys_of ctf_keys_of), slf_keys_of⟩)
    (cf_keys_of : PySem.W.codeIn K cdf_keys_of "keys_of" = true)
    (kf_keys_of : PySem.W.keepIn K (.ref a_keys_of) = true)
    (af_values_of : PySem.W.nsIn K mainGlobals "values_of" = some (some (.ref a_values_of)))
    (lf_values_of : K.lookup a_values_of = some ⟨ocf_values_of, odf_values_of, .func (PySem.W.fnOf "values_of" "values_of" (defArgs s_values_of) (defBody s_values_of) (defScope s_values_of) .none kVf_values_of dcf_values_of pmf_values_of anf_values_of cdf_values_of ctf_values_of), slf_values_of⟩)
    (cf_values_of : PySem.W.codeIn K cdf_values_of "values_of" = true)
    (kf_values_of : PySem.W.keepIn K (.ref a_values_of) = true)
    (af_entries : PySem.W.nsIn K mainGlobals "entries" = some (some (.ref a_entries)))
    (lf_entries : K.lookup a_entries = some ⟨ocf_entries, odf_entries, .func (PySem.W.fnOf "entries" "entries" (defArgs s_entries) (defBody s_entries) (defScope s_entries) .none kVf_entries dcf_entries pmf_entries anf_entries cdf_entries ctf_entries), slf_entries⟩)
    (cf_entries : PySem.W.codeIn K cdf_entries "entries" = true)
    (kf_entries : PySem.W.keepIn K (.ref a_entries) = true)
    (af_get : PySem.W.nsIn K mainGlobals "get" = some (some (.ref a_get)))
    (lf_get : K.lookup a_get = some ⟨ocf_get, odf_get, .func (PySem.W.fnOf "get" "get" (defArgs s_get) (defBody s_get) (defScope s_get) .none kVf_get dcf_get pmf_get anf_get cdf_get ctf_get), slf_get⟩)
    (cf_get : PySem.W.codeIn K cdf_get "get" = true)
    (kf_get : PySem.W.keepIn K (.ref a_get) = true)
    (af_merge : PySem.W.nsIn K mainGlobals "merge" = some (some (.ref a_merge)))
    (lf_merge : K.lookup a_merge = some ⟨ocf_merge, odf_merge, .func (PySem.W.fnOf "merge" "merge" (defArgs s_merge) (defBody s_merge) (defScope s_merge) .none kVf_merge dcf_merge pmf_merge anf_merge cdf_merge ctf_merge), slf_merge⟩)
    (cf_merge : PySem.W.codeIn K cdf_merge "merge" = true)
    (kf_merge : PySem.W.keepIn K (.ref a_merge) = true)
    (af_clear : PySem.W.nsIn K mainGlobals "clear" = some (some (.ref a_clear)))
    (lf_clear : K.lookup a_clear = some ⟨ocf_clear, odf_clear, .func (PySem.W.fnOf "clear" "clear" (defArgs s_clear) (defBody s_clear) (defScope s_clear) .none kVf_clear dcf_clear pmf_clear anf_clear cdf_clear ctf_clear), slf_clear⟩)
    (cf_clear : PySem.W.codeIn K cdf_clear "clear" = true)
    (kf_clear : PySem.W.keepIn K (.ref a_clear) = true)
    (af_in_capitals : PySem.W.nsIn K mainGlobals "in_capitals" = some (some (.ref a_in_capitals)))
    (lf_in_capitals : K.lookup a_in_capitals = some ⟨ocf_in_capitals, odf_in_capitals, .func (PySem.W.fnOf "in_capitals" "in_capitals" (defArgs s_in_capitals) (defBody s_in_capitals) (defScope s_in_capitals) .none kVf_in_capitals dcf_in_capitals pmf_in_capitals anf_in_capitals cdf_in_capitals ctf_in_capitals), slf_in_capitals⟩)
    (cf_in_capitals : PySem.W.codeIn K cdf_in_capitals "in_capitals" = true)
    (kf_in_capitals : PySem.W.keepIn K (.ref a_in_capitals) = true)
    (af_in_small_letters : PySem.W.nsIn K mainGlobals "in_small_letters" = some (some (.ref a_in_small_letters)))
    (lf_in_small_letters : K.lookup a_in_small_letters = some ⟨ocf_in_small_letters, odf_in_small_letters, .func (PySem.W.fnOf "in_small_letters" "in_small_letters" (defArgs s_in_small_letters) (defBody s_in_small_letters) (defScope s_in_small_letters) .none kVf_in_small_letters dcf_in_small_letters pmf_in_small_letters anf_in_small_letters cdf_in_small_letters ctf_in_small_letters), slf_in_small_letters⟩)
    (cf_in_small_letters : PySem.W.codeIn K cdf_in_small_letters "in_small_letters" = true)
    (kf_in_small_letters : PySem.W.keepIn K (.ref a_in_small_letters) = true)
    (af_split : PySem.W.nsIn K mainGlobals "split" = some (some (.ref a_split)))
    (lf_split : K.lookup a_split = some ⟨ocf_split, odf_split, .func (PySem.W.fnOf "split" "split" (defArgs s_split) (defBody s_split) (defScope s_split) .none kVf_split dcf_split pmf_split anf_split cdf_split ctf_split), slf_split⟩)
    (cf_split : PySem.W.codeIn K cdf_split "split" = true)
    (kf_split : PySem.W.keepIn K (.ref a_split) = true)
    (af_check_not_empty : PySem.W.nsIn K mainGlobals "check_not_empty" = some (some (.ref a_check_not_empty)))
    (lf_check_not_empty : K.lookup a_check_not_empty = some ⟨ocf_check_not_empty, odf_check_not_empty, .func (PySem.W.fnOf "check_not_empty" "check_not_empty" (defArgs s_check_not_empty) (defBody s_check_not_empty) (defScope s_check_not_empty) .none kVf_check_not_empty dcf_check_not_empty pmf_check_not_empty anf_check_not_empty cdf_check_not_empty ctf_check_not_empty), slf_check_not_empty⟩)
    (cf_check_not_empty : PySem.W.codeIn K cdf_check_not_empty "check_not_empty" = true)
    (kf_check_not_empty : PySem.W.keepIn K (.ref a_check_not_empty) = true)
    (af_replace : PySem.W.nsIn K mainGlobals "replace" = some (some (.ref a_replace)))
    (lf_replace : K.lookup a_replace = some ⟨ocf_replace, odf_replace, .func (PySem.W.fnOf "replace" "replace" (defArgs s_replace) (defBody s_replace) (defScope s_replace) .none kVf_replace dcf_replace pmf_replace anf_replace cdf_replace ctf_replace), slf_replace⟩)
    (cf_replace : PySem.W.codeIn K cdf_replace "replace" = true)
    (kf_replace : PySem.W.keepIn K (.ref a_replace) = true)
    (af_trim : PySem.W.nsIn K mainGlobals "trim" = some (some (.ref a_trim)))
    (lf_trim : K.lookup a_trim = some ⟨ocf_trim, odf_trim, .func (PySem.W.fnOf "trim" "trim" (defArgs s_trim) (defBody s_trim) (defScope s_trim) .none kVf_trim dcf_trim pmf_trim anf_trim cdf_trim ctf_trim), slf_trim⟩)
    (cf_trim : PySem.W.codeIn K cdf_trim "trim" = true)
    (kf_trim : PySem.W.keepIn K (.ref a_trim) = true)
    (af_begins_with : PySem.W.nsIn K mainGlobals "begins_with" = some (some (.ref a_begins_with)))
    (lf_begins_with : K.lookup a_begins_with = some ⟨ocf_begins_with, odf_begins_with, .func (PySem.W.fnOf "begins_with" "begins_with" (defArgs s_begins_with) (defBody s_begins_with) (defScope s_begins_with) .none kVf_begins_with dcf_begins_with pmf_begins_with anf_begins_with cdf_begins_with ctf_begins_with), slf_begins_with⟩)
    (cf_begins_with : PySem.W.codeIn K cdf_begins_with "begins_with" = true)
    (kf_begins_with : PySem.W.keepIn K (.ref a_begins_with) = true)
    (af_ends_with : PySem.W.nsIn K mainGlobals "ends_with" = some (some (.ref a_ends_with)))
    (lf_ends_with : K.lookup a_ends_with = some ⟨ocf_ends_with, odf_ends_with, .func (PySem.W.fnOf "ends_with" "ends_with" (defArgs s_ends_with) (defBody s_ends_with) (defScope s_ends_with) .none kVf_ends_with dcf_ends_with pmf_ends_with anf_ends_with cdf_ends_with ctf_ends_with), slf_ends_with⟩)
    (cf_ends_with : PySem.W.codeIn K cdf_ends_with "ends_with" = true)
    (kf_ends_with : PySem.W.keepIn K (.ref a_ends_with) = true)
    (af_repeat_ : PySem.W.nsIn K mainGlobals "repeat" = some (some (.ref a_repeat_)))
    (lf_repeat_ : K.lookup a_repeat_ = some ⟨ocf_repeat_, odf_repeat_, .func (PySem.W.fnOf "repeat" "repeat" (defArgs s_repeat_) (defBody s_repeat_) (defScope s_repeat_) .none kVf_repeat_ dcf_repeat_ pmf_repeat_ anf_repeat_ cdf_repeat_ ctf_repeat_), slf_repeat_⟩)
    (cf_repeat_ : PySem.W.codeIn K cdf_repeat_ "repeat" = true)
    (kf_repeat_ : PySem.W.keepIn K (.ref a_repeat_) = true)
    (af_lines : PySem.W.nsIn K mainGlobals "lines" = some (some (.ref a_lines)))
    (lf_lines : K.lookup a_lines = some ⟨ocf_lines, odf_lines, .func (PySem.W.fnOf "lines" "lines" (defArgs s_lines) (defBody s_lines) (defScope s_lines) .none kVf_lines dcf_lines pmf_lines anf_lines cdf_lines ctf_lines), slf_lines⟩)
    (cf_lines : PySem.W.codeIn K cdf_lines "lines" = true)
    (kf_lines : PySem.W.keepIn K (.ref a_lines) = true)
    (af_code : PySem.W.nsIn K mainGlobals "code" = some (some (.ref a_code)))
    (lf_code : K.lookup a_code = some ⟨ocf_code, odf_code, .func (PySem.W.fnOf "code" "code" (defArgs s_code) (defBody s_code) (defScope s_code) .none kVf_code dcf_code pmf_code anf_code cdf_code ctf_code), slf_code⟩)
    (cf_code : PySem.W.codeIn K cdf_code "code" = true)
    (kf_code : PySem.W.keepIn K (.ref a_code) = true)
    (af_call_method : PySem.W.nsIn K mainGlobals "call_method" = some (some (.ref a_call_method)))
    (lf_call_method : K.lookup a_call_method = some ⟨ocf_call_method, odf_call_method, .func (PySem.W.fnOf "call_method" "call_method" (defArgs s_call_method) (defBody s_call_method) (defScope s_call_method) .none kVf_call_method dcf_call_method pmf_call_method anf_call_method cdf_call_method ctf_call_method), slf_call_method⟩)
    (cf_call_method : PySem.W.codeIn K cdf_call_method "call_method" = true)
    (kf_call_method : PySem.W.keepIn K (.ref a_call_method) = true)
    (af_method_for : PySem.W.nsIn K mainGlobals "method_for" = some (some (.ref a_method_for)))
    (lf_method_for : K.lookup a_method_for = some ⟨ocf_method_for, odf_method_for, .func (PySem.W.fnOf "method_for" "method_for" (defArgs s_method_for) (defBody s_method_for) (defScope s_method_for) .none kVf_method_for dcf_method_for pmf_method_for anf_method_for cdf_method_for ctf_method_for), slf_method_for⟩)
    (cf_method_for : PySem.W.codeIn K cdf_method_for "method_for" = true)
    (kf_method_for : PySem.W.keepIn K (.ref a_method_for) = true)
    (af_law_cell : PySem.W.nsIn K mainGlobals "_law_cell" = some (some (.ref a_law_cell)))
    (lf_law_cell : K.lookup a_law_cell = some ⟨ocf_law_cell, odf_law_cell, .func (PySem.W.fnOf "_law_cell" "_law_cell" (defArgs s_law_cell) (defBody s_law_cell) (defScope s_law_cell) .none kVf_law_cell dcf_law_cell pmf_law_cell anf_law_cell cdf_law_cell ctf_law_cell), slf_law_cell⟩)
    (cf_law_cell : PySem.W.codeIn K cdf_law_cell "_law_cell" = true)
    (kf_law_cell : PySem.W.keepIn K (.ref a_law_cell) = true)
    (af_law_begin : PySem.W.nsIn K mainGlobals "_law_begin" = some (some (.ref a_law_begin)))
    (lf_law_begin : K.lookup a_law_begin = some ⟨ocf_law_begin, odf_law_begin, .func (PySem.W.fnOf "_law_begin" "_law_begin" (defArgs s_law_begin) (defBody s_law_begin) (defScope s_law_begin) .none kVf_law_begin dcf_law_begin pmf_law_begin anf_law_begin cdf_law_begin ctf_law_begin), slf_law_begin⟩)
    (cf_law_begin : PySem.W.codeIn K cdf_law_begin "_law_begin" = true)
    (kf_law_begin : PySem.W.keepIn K (.ref a_law_begin) = true)
    (af_law_draw : PySem.W.nsIn K mainGlobals "_law_draw" = some (some (.ref a_law_draw)))
    (lf_law_draw : K.lookup a_law_draw = some ⟨ocf_law_draw, odf_law_draw, .func (PySem.W.fnOf "_law_draw" "_law_draw" (defArgs s_law_draw) (defBody s_law_draw) (defScope s_law_draw) .none kVf_law_draw dcf_law_draw pmf_law_draw anf_law_draw cdf_law_draw ctf_law_draw), slf_law_draw⟩)
    (cf_law_draw : PySem.W.codeIn K cdf_law_draw "_law_draw" = true)
    (kf_law_draw : PySem.W.keepIn K (.ref a_law_draw) = true)
    (af_law_pick : PySem.W.nsIn K mainGlobals "_law_pick" = some (some (.ref a_law_pick)))
    (lf_law_pick : K.lookup a_law_pick = some ⟨ocf_law_pick, odf_law_pick, .func (PySem.W.fnOf "_law_pick" "_law_pick" (defArgs s_law_pick) (defBody s_law_pick) (defScope s_law_pick) .none kVf_law_pick dcf_law_pick pmf_law_pick anf_law_pick cdf_law_pick ctf_law_pick), slf_law_pick⟩)
    (cf_law_pick : PySem.W.codeIn K cdf_law_pick "_law_pick" = true)
    (kf_law_pick : PySem.W.keepIn K (.ref a_law_pick) = true)
    (af_law_value : PySem.W.nsIn K mainGlobals "_law_value" = some (some (.ref a_law_value)))
    (lf_law_value : K.lookup a_law_value = some ⟨ocf_law_value, odf_law_value, .func (PySem.W.fnOf "_law_value" "_law_value" (defArgs s_law_value) (defBody s_law_value) (defScope s_law_value) .none kVf_law_value dcf_law_value pmf_law_value anf_law_value cdf_law_value ctf_law_value), slf_law_value⟩)
    (cf_law_value : PySem.W.codeIn K cdf_law_value "_law_value" = true)
    (kf_law_value : PySem.W.keepIn K (.ref a_law_value) = true)
    (af_law_same : PySem.W.nsIn K mainGlobals "_law_same" = some (some (.ref a_law_same)))
    (lf_law_same : K.lookup a_law_same = some ⟨ocf_law_same, odf_law_same, .func (PySem.W.fnOf "_law_same" "_law_same" (defArgs s_law_same) (defBody s_law_same) (defScope s_law_same) .none kVf_law_same dcf_law_same pmf_law_same anf_law_same cdf_law_same ctf_law_same), slf_law_same⟩)
    (cf_law_same : PySem.W.codeIn K cdf_law_same "_law_same" = true)
    (kf_law_same : PySem.W.keepIn K (.ref a_law_same) = true)
    (af_law_rows : PySem.W.nsIn K mainGlobals "_law_rows" = some (some (.ref a_law_rows)))
    (lf_law_rows : K.lookup a_law_rows = some ⟨ocf_law_rows, odf_law_rows, .func (PySem.W.fnOf "_law_rows" "_law_rows" (defArgs s_law_rows) (defBody s_law_rows) (defScope s_law_rows) .none kVf_law_rows dcf_law_rows pmf_law_rows anf_law_rows cdf_law_rows ctf_law_rows), slf_law_rows⟩)
    (cf_law_rows : PySem.W.codeIn K cdf_law_rows "_law_rows" = true)
    (kf_law_rows : PySem.W.keepIn K (.ref a_law_rows) = true)
    (af_law_call : PySem.W.nsIn K mainGlobals "_law_call" = some (some (.ref a_law_call)))
    (lf_law_call : K.lookup a_law_call = some ⟨ocf_law_call, odf_law_call, .func (PySem.W.fnOf "_law_call" "_law_call" (defArgs s_law_call) (defBody s_law_call) (defScope s_law_call) .none kVf_law_call dcf_law_call pmf_law_call anf_law_call cdf_law_call ctf_law_call), slf_law_call⟩)
    (cf_law_call : PySem.W.codeIn K cdf_law_call "_law_call" = true)
    (kf_law_call : PySem.W.keepIn K (.ref a_law_call) = true)
    (af_law_item : PySem.W.nsIn K mainGlobals "_law_item" = some (some (.ref a_law_item)))
    (lf_law_item : K.lookup a_law_item = some ⟨ocf_law_item, odf_law_item, .func (PySem.W.fnOf "_law_item" "_law_item" (defArgs s_law_item) (defBody s_law_item) (defScope s_law_item) .none kVf_law_item dcf_law_item pmf_law_item anf_law_item cdf_law_item ctf_law_item), slf_law_item⟩)
    (cf_law_item : PySem.W.codeIn K cdf_law_item "_law_item" = true)
    (kf_law_item : PySem.W.keepIn K (.ref a_law_item) = true)
    (af_law_places : PySem.W.nsIn K mainGlobals "_law_places" = some (some (.ref a_law_places)))
    (lf_law_places : K.lookup a_law_places = some ⟨ocf_law_places, odf_law_places, .func (PySem.W.fnOf "_law_places" "_law_places" (defArgs s_law_places) (defBody s_law_places) (defScope s_law_places) .none kVf_law_places dcf_law_places pmf_law_places anf_law_places cdf_law_places ctf_law_places), slf_law_places⟩)
    (cf_law_places : PySem.W.codeIn K cdf_law_places "_law_places" = true)
    (kf_law_places : PySem.W.keepIn K (.ref a_law_places) = true)
    (af_law_change : PySem.W.nsIn K mainGlobals "_law_change" = some (some (.ref a_law_change)))
    (lf_law_change : K.lookup a_law_change = some ⟨ocf_law_change, odf_law_change, .func (PySem.W.fnOf "_law_change" "_law_change" (defArgs s_law_change) (defBody s_law_change) (defScope s_law_change) .none kVf_law_change dcf_law_change pmf_law_change anf_law_change cdf_law_change ctf_law_change), slf_law_change⟩)
    (cf_law_change : PySem.W.codeIn K cdf_law_change "_law_change" = true)
    (kf_law_change : PySem.W.keepIn K (.ref a_law_change) = true)
    (af_law_found : PySem.W.nsIn K mainGlobals "_law_found" = some (some (.ref a_law_found)))
    (lf_law_found : K.lookup a_law_found = some ⟨ocf_law_found, odf_law_found, .func (PySem.W.fnOf "_law_found" "_law_found" (defArgs s_law_found) (defBody s_law_found) (defScope s_law_found) .none kVf_law_found dcf_law_found pmf_law_found anf_law_found cdf_law_found ctf_law_found), slf_law_found⟩)
    (cf_law_found : PySem.W.codeIn K cdf_law_found "_law_found" = true)
    (kf_law_found : PySem.W.keepIn K (.ref a_law_found) = true)
    (af_law_equal : PySem.W.nsIn K mainGlobals "_law_equal" = some (some (.ref a_law_equal)))
    (lf_law_equal : K.lookup a_law_equal = some ⟨ocf_law_equal, odf_law_equal, .func (PySem.W.fnOf "_law_equal" "_law_equal" (defArgs s_law_equal) (defBody s_law_equal) (defScope s_law_equal) .none kVf_law_equal dcf_law_equal pmf_law_equal anf_law_equal cdf_law_equal ctf_law_equal), slf_law_equal⟩)
    (cf_law_equal : PySem.W.codeIn K cdf_law_equal "_law_equal" = true)
    (kf_law_equal : PySem.W.keepIn K (.ref a_law_equal) = true)
    (af_law_new : PySem.W.nsIn K mainGlobals "_law_new" = some (some (.ref a_law_new)))
    (lf_law_new : K.lookup a_law_new = some ⟨ocf_law_new, odf_law_new, .func (PySem.W.fnOf "_law_new" "_law_new" (defArgs s_law_new) (defBody s_law_new) (defScope s_law_new) .none kVf_law_new dcf_law_new pmf_law_new anf_law_new cdf_law_new ctf_law_new), slf_law_new⟩)
    (cf_law_new : PySem.W.codeIn K cdf_law_new "_law_new" = true)
    (kf_law_new : PySem.W.keepIn K (.ref a_law_new) = true)
    (af_law_step : PySem.W.nsIn K mainGlobals "_law_step" = some (some (.ref a_law_step)))
    (lf_law_step : K.lookup a_law_step = some ⟨ocf_law_step, odf_law_step, .func (PySem.W.fnOf "_law_step" "_law_step" (defArgs s_law_step) (defBody s_law_step) (defScope s_law_step) .none kVf_law_step dcf_law_step pmf_law_step anf_law_step cdf_law_step ctf_law_step), slf_law_step⟩)
    (cf_law_step : PySem.W.codeIn K cdf_law_step "_law_step" = true)
    (kf_law_step : PySem.W.keepIn K (.ref a_law_step) = true)
    (af_law_elements : PySem.W.nsIn K mainGlobals "_law_elements" = some (some (.ref a_law_elements)))
    (lf_law_elements : K.lookup a_law_elements = some ⟨ocf_law_elements, odf_law_elements, .func (PySem.W.fnOf "_law_elements" "_law_elements" (defArgs s_law_elements) (defBody s_law_elements) (defScope s_law_elements) .none kVf_law_elements dcf_law_elements pmf_law_elements anf_law_elements cdf_law_elements ctf_law_elements), slf_law_elements⟩)
    (cf_law_elements : PySem.W.codeIn K cdf_law_elements "_law_elements" = true)
    (kf_law_elements : PySem.W.keepIn K (.ref a_law_elements) = true)
    (af_law_wrong : PySem.W.nsIn K mainGlobals "_law_wrong" = some (some (.ref a_law_wrong)))
    (lf_law_wrong : K.lookup a_law_wrong = some ⟨ocf_law_wrong, odf_law_wrong, .func (PySem.W.fnOf "_law_wrong" "_law_wrong" (defArgs s_law_wrong) (defBody s_law_wrong) (defScope s_law_wrong) .none kVf_law_wrong dcf_law_wrong pmf_law_wrong anf_law_wrong cdf_law_wrong ctf_law_wrong), slf_law_wrong⟩)
    (cf_law_wrong : PySem.W.codeIn K cdf_law_wrong "_law_wrong" = true)
    (kf_law_wrong : PySem.W.keepIn K (.ref a_law_wrong) = true)
    (alaw : PySem.W.nsIn K mainGlobals "law" = some (some (.ref a_law)))
    (llaw : K.lookup a_law = some ⟨oclaw, odlaw, .func (PySem.W.fnOf "law" "law" (defArgs s_law) (defBody s_law) (defScope s_law) .none kVlaw dclaw pmlaw anlaw cdlaw ctlaw), sllaw⟩)
    (claw : PySem.W.codeIn K cdlaw "law" = true)
    (klaw : PySem.W.keepIn K (.ref a_law) = true)
    (af_take_out_lists : PySem.W.nsIn K mainGlobals "take_out_lists" = some (some (.ref a_take_out_lists)))
    (lf_take_out_lists : K.lookup a_take_out_lists = some ⟨ocf_take_out_lists, odf_take_out_lists, .func (PySem.W.fnOf "take_out" "take_out" (defArgs s_take_out_lists) (defBody s_take_out_lists) (defScope s_take_out_lists) .none kVf_take_out_lists dcf_take_out_lists pmf_take_out_lists anf_take_out_lists cdf_take_out_lists ctf_take_out_lists), slf_take_out_lists⟩)
    (cf_take_out_lists : PySem.W.codeIn K cdf_take_out_lists "take_out" = true)
    (kf_take_out_lists : PySem.W.keepIn K (.ref a_take_out_lists) = true)
    (af_length_lists : PySem.W.nsIn K mainGlobals "length_lists" = some (some (.ref a_length_lists)))
    (lf_length_lists : K.lookup a_length_lists = some ⟨ocf_length_lists, odf_length_lists, .func (PySem.W.fnOf "length" "length" (defArgs s_length_lists) (defBody s_length_lists) (defScope s_length_lists) .none kVf_length_lists dcf_length_lists pmf_length_lists anf_length_lists cdf_length_lists ctf_length_lists), slf_length_lists⟩)
    (cf_length_lists : PySem.W.codeIn K cdf_length_lists "length" = true)
    (kf_length_lists : PySem.W.keepIn K (.ref a_length_lists) = true)
    (af_part_between_lists : PySem.W.nsIn K mainGlobals "part_between_lists" = some (some (.ref a_part_between_lists)))
    (lf_part_between_lists : K.lookup a_part_between_lists = some ⟨ocf_part_between_lists, odf_part_between_lists, .func (PySem.W.fnOf "part_between" "part_between" (defArgs s_part_between_lists) (defBody s_part_between_lists) (defScope s_part_between_lists) .none kVf_part_between_lists dcf_part_between_lists pmf_part_between_lists anf_part_between_lists cdf_part_between_lists ctf_part_between_lists), slf_part_between_lists⟩)
    (cf_part_between_lists : PySem.W.codeIn K cdf_part_between_lists "part_between" = true)
    (kf_part_between_lists : PySem.W.keepIn K (.ref a_part_between_lists) = true)
    (af_contains_lists : PySem.W.nsIn K mainGlobals "contains_lists" = some (some (.ref a_contains_lists)))
    (lf_contains_lists : K.lookup a_contains_lists = some ⟨ocf_contains_lists, odf_contains_lists, .func (PySem.W.fnOf "contains" "contains" (defArgs s_contains_lists) (defBody s_contains_lists) (defScope s_contains_lists) .none kVf_contains_lists dcf_contains_lists pmf_contains_lists anf_contains_lists cdf_contains_lists ctf_contains_lists), slf_contains_lists⟩)
    (cf_contains_lists : PySem.W.codeIn K cdf_contains_lists "contains" = true)
    (kf_contains_lists : PySem.W.keepIn K (.ref a_contains_lists) = true)
    (af_find_lists : PySem.W.nsIn K mainGlobals "find_lists" = some (some (.ref a_find_lists)))
    (lf_find_lists : K.lookup a_find_lists = some ⟨ocf_find_lists, odf_find_lists, .func (PySem.W.fnOf "find" "find" (defArgs s_find_lists) (defBody s_find_lists) (defScope s_find_lists) .none kVf_find_lists dcf_find_lists pmf_find_lists anf_find_lists cdf_find_lists ctf_find_lists), slf_find_lists⟩)
    (cf_find_lists : PySem.W.codeIn K cdf_find_lists "find" = true)
    (kf_find_lists : PySem.W.keepIn K (.ref a_find_lists) = true)
    (af_turn_around_lists : PySem.W.nsIn K mainGlobals "turn_around_lists" = some (some (.ref a_turn_around_lists)))
    (lf_turn_around_lists : K.lookup a_turn_around_lists = some ⟨ocf_turn_around_lists, odf_turn_around_lists, .func (PySem.W.fnOf "turn_around" "turn_around" (defArgs s_turn_around_lists) (defBody s_turn_around_lists) (defScope s_turn_around_lists) .none kVf_turn_around_lists dcf_turn_around_lists pmf_turn_around_lists anf_turn_around_lists cdf_turn_around_lists ctf_turn_around_lists), slf_turn_around_lists⟩)
    (cf_turn_around_lists : PySem.W.codeIn K cdf_turn_around_lists "turn_around" = true)
    (kf_turn_around_lists : PySem.W.keepIn K (.ref a_turn_around_lists) = true)
    (af_copy_lists : PySem.W.nsIn K mainGlobals "copy_lists" = some (some (.ref a_copy_lists)))
    (lf_copy_lists : K.lookup a_copy_lists = some ⟨ocf_copy_lists, odf_copy_lists, .func (PySem.W.fnOf "copy" "copy" (defArgs s_copy_lists) (defBody s_copy_lists) (defScope s_copy_lists) .none kVf_copy_lists dcf_copy_lists pmf_copy_lists anf_copy_lists cdf_copy_lists ctf_copy_lists), slf_copy_lists⟩)
    (cf_copy_lists : PySem.W.codeIn K cdf_copy_lists "copy" = true)
    (kf_copy_lists : PySem.W.keepIn K (.ref a_copy_lists) = true)
    (af_take_out_maps : PySem.W.nsIn K mainGlobals "take_out_maps" = some (some (.ref a_take_out_maps)))
    (lf_take_out_maps : K.lookup a_take_out_maps = some ⟨ocf_take_out_maps, odf_take_out_maps, .func (PySem.W.fnOf "take_out" "take_out" (defArgs s_take_out_maps) (defBody s_take_out_maps) (defScope s_take_out_maps) .none kVf_take_out_maps dcf_take_out_maps pmf_take_out_maps anf_take_out_maps cdf_take_out_maps ctf_take_out_maps), slf_take_out_maps⟩)
    (cf_take_out_maps : PySem.W.codeIn K cdf_take_out_maps "take_out" = true)
    (kf_take_out_maps : PySem.W.keepIn K (.ref a_take_out_maps) = true)
    (af_copy_maps : PySem.W.nsIn K mainGlobals "copy_maps" = some (some (.ref a_copy_maps)))
    (lf_copy_maps : K.lookup a_copy_maps = some ⟨ocf_copy_maps, odf_copy_maps, .func (PySem.W.fnOf "copy" "copy" (defArgs s_copy_maps) (defBody s_copy_maps) (defScope s_copy_maps) .none kVf_copy_maps dcf_copy_maps pmf_copy_maps anf_copy_maps cdf_copy_maps ctf_copy_maps), slf_copy_maps⟩)
    (cf_copy_maps : PySem.W.codeIn K cdf_copy_maps "copy" = true)
    (kf_copy_maps : PySem.W.keepIn K (.ref a_copy_maps) = true)
    (af_length_maps : PySem.W.nsIn K mainGlobals "length_maps" = some (some (.ref a_length_maps)))
    (lf_length_maps : K.lookup a_length_maps = some ⟨ocf_length_maps, odf_length_maps, .func (PySem.W.fnOf "length" "length" (defArgs s_length_maps) (defBody s_length_maps) (defScope s_length_maps) .none kVf_length_maps dcf_length_maps pmf_length_maps anf_length_maps cdf_length_maps ctf_length_maps), slf_length_maps⟩)
    (cf_length_maps : PySem.W.codeIn K cdf_length_maps "length" = true)
    (kf_length_maps : PySem.W.keepIn K (.ref a_length_maps) = true)
    (af_length_texts : PySem.W.nsIn K mainGlobals "length_texts" = some (some (.ref a_length_texts)))
    (lf_length_texts : K.lookup a_length_texts = some ⟨ocf_length_texts, odf_length_texts, .func (PySem.W.fnOf "length" "length" (defArgs s_length_texts) (defBody s_length_texts) (defScope s_length_texts) .none kVf_length_texts dcf_length_texts pmf_length_texts anf_length_texts cdf_length_texts ctf_length_texts), slf_length_texts⟩)
    (cf_length_texts : PySem.W.codeIn K cdf_length_texts "length" = true)
    (kf_length_texts : PySem.W.keepIn K (.ref a_length_texts) = true)
    (af_part_between_texts : PySem.W.nsIn K mainGlobals "part_between_texts" = some (some (.ref a_part_between_texts)))
    (lf_part_between_texts : K.lookup a_part_between_texts = some ⟨ocf_part_between_texts, odf_part_between_texts, .func (PySem.W.fnOf "part_between" "part_between" (defArgs s_part_between_texts) (defBody s_part_between_texts) (defScope s_part_between_texts) .none kVf_part_between_texts dcf_part_between_texts pmf_part_between_texts anf_part_between_texts cdf_part_between_texts ctf_part_between_texts), slf_part_between_texts⟩)
    (cf_part_between_texts : PySem.W.codeIn K cdf_part_between_texts "part_between" = true)
    (kf_part_between_texts : PySem.W.keepIn K (.ref a_part_between_texts) = true)
    (af_find_texts : PySem.W.nsIn K mainGlobals "find_texts" = some (some (.ref a_find_texts)))
    (lf_find_texts : K.lookup a_find_texts = some ⟨ocf_find_texts, odf_find_texts, .func (PySem.W.fnOf "find" "find" (defArgs s_find_texts) (defBody s_find_texts) (defScope s_find_texts) .none kVf_find_texts dcf_find_texts pmf_find_texts anf_find_texts cdf_find_texts ctf_find_texts), slf_find_texts⟩)
    (cf_find_texts : PySem.W.codeIn K cdf_find_texts "find" = true)
    (kf_find_texts : PySem.W.keepIn K (.ref a_find_texts) = true)
    (af_contains_texts : PySem.W.nsIn K mainGlobals "contains_texts" = some (some (.ref a_contains_texts)))
    (lf_contains_texts : K.lookup a_contains_texts = some ⟨ocf_contains_texts, odf_contains_texts, .func (PySem.W.fnOf "contains" "contains" (defArgs s_contains_texts) (defBody s_contains_texts) (defScope s_contains_texts) .none kVf_contains_texts dcf_contains_texts pmf_contains_texts anf_contains_texts cdf_contains_texts ctf_contains_texts), slf_contains_texts⟩)
    (cf_contains_texts : PySem.W.codeIn K cdf_contains_texts "contains" = true)
    (kf_contains_texts : PySem.W.keepIn K (.ref a_contains_texts) = true)
    (af_turn_around_texts : PySem.W.nsIn K mainGlobals "turn_around_texts" = some (some (.ref a_turn_around_texts)))
    (lf_turn_around_texts : K.lookup a_turn_around_texts = some ⟨ocf_turn_around_texts, odf_turn_around_texts, .func (PySem.W.fnOf "turn_around" "turn_around" (defArgs s_turn_around_texts) (defBody s_turn_around_texts) (defScope s_turn_around_texts) .none kVf_turn_around_texts dcf_turn_around_texts pmf_turn_around_texts anf_turn_around_texts cdf_turn_around_texts ctf_turn_around_texts), slf_turn_around_texts⟩)
    (cf_turn_around_texts : PySem.W.codeIn K cdf_turn_around_texts "turn_around" = true)
    (kf_turn_around_texts : PySem.W.keepIn K (.ref a_turn_around_texts) = true)
    (af_Ref_init : PySem.W.findIn K (.ref cRef) "__init__" = some (some (.ref a_Ref_init)))
    (if_Ref_init : PySem.W.isFn K (.ref a_Ref_init) = true)
    (lf_Ref_init : K.lookup a_Ref_init = some ⟨ocf_Ref_init, odf_Ref_init, .func (PySem.W.fnOf "__init__" "Ref.__init__" (defArgs s_Ref_init) (defBody s_Ref_init) (defScope s_Ref_init) .none kVf_Ref_init dcf_Ref_init pmf_Ref_init anf_Ref_init cdf_Ref_init ctf_Ref_init), slf_Ref_init⟩)
    (cf_Ref_init : PySem.W.codeIn K cdf_Ref_init "Ref.__init__" = true)
    (kf_Ref_init : PySem.W.keepIn K (.ref a_Ref_init) = true)
    (af_Ref_eq : PySem.W.findIn K (.ref cRef) "__eq__" = some (some (.ref a_Ref_eq)))
    (if_Ref_eq : PySem.W.isFn K (.ref a_Ref_eq) = true)
    (lf_Ref_eq : K.lookup a_Ref_eq = some ⟨ocf_Ref_eq, odf_Ref_eq, .func (PySem.W.fnOf "__eq__" "Ref.__eq__" (defArgs s_Ref_eq) (defBody s_Ref_eq) (defScope s_Ref_eq) .none kVf_Ref_eq dcf_Ref_eq pmf_Ref_eq anf_Ref_eq cdf_Ref_eq ctf_Ref_eq), slf_Ref_eq⟩)
    (cf_Ref_eq : PySem.W.codeIn K cdf_Ref_eq "Ref.__eq__" = true)
    (kf_Ref_eq : PySem.W.keepIn K (.ref a_Ref_eq) = true)
    (af_Parts_init : PySem.W.findIn K (.ref cParts) "__init__" = some (some (.ref a_Parts_init)))
    (if_Parts_init : PySem.W.isFn K (.ref a_Parts_init) = true)
    (lf_Parts_init : K.lookup a_Parts_init = some ⟨ocf_Parts_init, odf_Parts_init, .func (PySem.W.fnOf "__init__" "Parts.__init__" (defArgs s_Parts_init) (defBody s_Parts_init) (defScope s_Parts_init) .none kVf_Parts_init dcf_Parts_init pmf_Parts_init anf_Parts_init cdf_Parts_init ctf_Parts_init), slf_Parts_init⟩)
    (cf_Parts_init : PySem.W.codeIn K cdf_Parts_init "Parts.__init__" = true)
    (kf_Parts_init : PySem.W.keepIn K (.ref a_Parts_init) = true)
    (af_Table_init : PySem.W.findIn K (.ref cTable) "__init__" = some (some (.ref a_Table_init)))
    (if_Table_init : PySem.W.isFn K (.ref a_Table_init) = true)
    (lf_Table_init : K.lookup a_Table_init = some ⟨ocf_Table_init, odf_Table_init, .func (PySem.W.fnOf "__init__" "Table.__init__" (defArgs s_Table_init) (defBody s_Table_init) (defScope s_Table_init) .none kVf_Table_init dcf_Table_init pmf_Table_init anf_Table_init cdf_Table_init ctf_Table_init), slf_Table_init⟩)
    (cf_Table_init : PySem.W.codeIn K cdf_Table_init "Table.__init__" = true)
    (kf_Table_init : PySem.W.keepIn K (.ref a_Table_init) = true)
    (af_Table_has : PySem.W.findIn K (.ref cTable) "has" = some (some (.ref a_Table_has)))
    (if_Table_has : PySem.W.isFn K (.ref a_Table_has) = true)
    (lf_Table_has : K.lookup a_Table_has = some ⟨ocf_Table_has, odf_Table_has, .func (PySem.W.fnOf "has" "Table.has" (defArgs s_Table_has) (defBody s_Table_has) (defScope s_Table_has) .none kVf_Table_has dcf_Table_has pmf_Table_has anf_Table_has cdf_Table_has ctf_Table_has), slf_Table_has⟩)
    (cf_Table_has : PySem.W.codeIn K cdf_Table_has "Table.has" = true)
    (kf_Table_has : PySem.W.keepIn K (.ref a_Table_has) = true)
    (af_Table_value_of : PySem.W.findIn K (.ref cTable) "value_of" = some (some (.ref a_Table_value_of)))
    (if_Table_value_of : PySem.W.isFn K (.ref a_Table_value_of) = true)
    (lf_Table_value_of : K.lookup a_Table_value_of = some ⟨ocf_Table_value_of, odf_Table_value_of, .func (PySem.W.fnOf "value_of" "Table.value_of" (defArgs s_Table_value_of) (defBody s_Table_value_of) (defScope s_Table_value_of) .none kVf_Table_value_of dcf_Table_value_of pmf_Table_value_of anf_Table_value_of cdf_Table_value_of ctf_Table_value_of), slf_Table_value_of⟩)
    (cf_Table_value_of : PySem.W.codeIn K cdf_Table_value_of "Table.value_of" = true)
    (kf_Table_value_of : PySem.W.keepIn K (.ref a_Table_value_of) = true)
    (af_Table_put : PySem.W.findIn K (.ref cTable) "put" = some (some (.ref a_Table_put)))
    (if_Table_put : PySem.W.isFn K (.ref a_Table_put) = true)
    (lf_Table_put : K.lookup a_Table_put = some ⟨ocf_Table_put, odf_Table_put, .func (PySem.W.fnOf "put" "Table.put" (defArgs s_Table_put) (defBody s_Table_put) (defScope s_Table_put) .none kVf_Table_put dcf_Table_put pmf_Table_put anf_Table_put cdf_Table_put ctf_Table_put), slf_Table_put⟩)
    (cf_Table_put : PySem.W.codeIn K cdf_Table_put "Table.put" = true)
    (kf_Table_put : PySem.W.keepIn K (.ref a_Table_put) = true)
    (af_Table_take_out : PySem.W.findIn K (.ref cTable) "take_out" = some (some (.ref a_Table_take_out)))
    (if_Table_take_out : PySem.W.isFn K (.ref a_Table_take_out) = true)
    (lf_Table_take_out : K.lookup a_Table_take_out = some ⟨ocf_Table_take_out, odf_Table_take_out, .func (PySem.W.fnOf "take_out" "Table.take_out" (defArgs s_Table_take_out) (defBody s_Table_take_out) (defScope s_Table_take_out) .none kVf_Table_take_out dcf_Table_take_out pmf_Table_take_out anf_Table_take_out cdf_Table_take_out ctf_Table_take_out), slf_Table_take_out⟩)
    (cf_Table_take_out : PySem.W.codeIn K cdf_Table_take_out "Table.take_out" = true)
    (kf_Table_take_out : PySem.W.keepIn K (.ref a_Table_take_out) = true)
    (af_Table_pairs : PySem.W.findIn K (.ref cTable) "pairs" = some (some (.ref a_Table_pairs)))
    (if_Table_pairs : PySem.W.isFn K (.ref a_Table_pairs) = true)
    (lf_Table_pairs : K.lookup a_Table_pairs = some ⟨ocf_Table_pairs, odf_Table_pairs, .func (PySem.W.fnOf "pairs" "Table.pairs" (defArgs s_Table_pairs) (defBody s_Table_pairs) (defScope s_Table_pairs) .none kVf_Table_pairs dcf_Table_pairs pmf_Table_pairs anf_Table_pairs cdf_Table_pairs ctf_Table_pairs), slf_Table_pairs⟩)
    (cf_Table_pairs : PySem.W.codeIn K cdf_Table_pairs "Table.pairs" = true)
    (kf_Table_pairs : PySem.W.keepIn K (.ref a_Table_pairs) = true)
    (af_Table_many : PySem.W.findIn K (.ref cTable) "many" = some (some (.ref p_Table_many)))
    (pgtf_Table_many : PySem.W.specialIn K (.ref p_Table_many) "__get__" = some (some (.builtin "property.__get__")))
    (ptkf_Table_many : PySem.W.takesIn K (.ref p_Table_many) = some true)
    (prcf_Table_many : PySem.W.recIn K p_Table_many "property" = some (.ref a_Table_many :: rsf_Table_many))
    (lf_Table_many : K.lookup a_Table_many = some ⟨ocf_Table_many, odf_Table_many, .func (PySem.W.fnOf "many" "Table.many" (defArgs s_Table_many) (defBody s_Table_many) (defScope s_Table_many) .none kVf_Table_many dcf_Table_many pmf_Table_many anf_Table_many cdf_Table_many ctf_Table_many), slf_Table_many⟩)
    (cf_Table_many : PySem.W.codeIn K cdf_Table_many "Table.many" = true)
    (kf_Table_many : PySem.W.keepIn K (.ref a_Table_many) = true)
    (af_Instance_init : PySem.W.findIn K (.ref cInstance) "__init__" = some (some (.ref a_Instance_init)))
    (if_Instance_init : PySem.W.isFn K (.ref a_Instance_init) = true)
    (lf_Instance_init : K.lookup a_Instance_init = some ⟨ocf_Instance_init, odf_Instance_init, .func (PySem.W.fnOf "__init__" "Instance.__init__" (defArgs s_Instance_init) (defBody s_Instance_init) (defScope s_Instance_init) .none kVf_Instance_init dcf_Instance_init pmf_Instance_init anf_Instance_init cdf_Instance_init ctf_Instance_init), slf_Instance_init⟩)
    (cf_Instance_init : PySem.W.codeIn K cdf_Instance_init "Instance.__init__" = true)
    (kf_Instance_init : PySem.W.keepIn K (.ref a_Instance_init) = true)
    (af_Kin_init : PySem.W.findIn K (.ref cKin) "__init__" = some (some (.ref a_Kin_init)))
    (if_Kin_init : PySem.W.isFn K (.ref a_Kin_init) = true)
    (lf_Kin_init : K.lookup a_Kin_init = some ⟨ocf_Kin_init, odf_Kin_init, .func (PySem.W.fnOf "__init__" "Kin.__init__" (defArgs s_Kin_init) (defBody s_Kin_init) (defScope s_Kin_init) .none kVf_Kin_init dcf_Kin_init pmf_Kin_init anf_Kin_init cdf_Kin_init ctf_Kin_init), slf_Kin_init⟩)
    (cf_Kin_init : PySem.W.codeIn K cdf_Kin_init "Kin.__init__" = true)
    (kf_Kin_init : PySem.W.keepIn K (.ref a_Kin_init) = true)
    (af_Form_init : PySem.W.findIn K (.ref cForm) "__init__" = some (some (.ref a_Form_init)))
    (if_Form_init : PySem.W.isFn K (.ref a_Form_init) = true)
    (lf_Form_init : K.lookup a_Form_init = some ⟨ocf_Form_init, odf_Form_init, .func (PySem.W.fnOf "__init__" "Form.__init__" (defArgs s_Form_init) (defBody s_Form_init) (defScope s_Form_init) .none kVf_Form_init dcf_Form_init pmf_Form_init anf_Form_init cdf_Form_init ctf_Form_init), slf_Form_init⟩)
    (cf_Form_init : PySem.W.codeIn K cdf_Form_init "Form.__init__" = true)
    (kf_Form_init : PySem.W.keepIn K (.ref a_Form_init) = true)
    (af_Form_add : PySem.W.findIn K (.ref cForm) "add" = some (some (.ref a_Form_add)))
    (if_Form_add : PySem.W.isFn K (.ref a_Form_add) = true)
    (lf_Form_add : K.lookup a_Form_add = some ⟨ocf_Form_add, odf_Form_add, .func (PySem.W.fnOf "add" "Form.add" (defArgs s_Form_add) (defBody s_Form_add) (defScope s_Form_add) .none kVf_Form_add dcf_Form_add pmf_Form_add anf_Form_add cdf_Form_add ctf_Form_add), slf_Form_add⟩)
    (cf_Form_add : PySem.W.codeIn K cdf_Form_add "Form.add" = true)
    (kf_Form_add : PySem.W.keepIn K (.ref a_Form_add) = true)
    (af_Form_is_enough : PySem.W.findIn K (.ref cForm) "is_enough" = some (some (.ref a_Form_is_enough)))
    (if_Form_is_enough : PySem.W.isFn K (.ref a_Form_is_enough) = true)
    (lf_Form_is_enough : K.lookup a_Form_is_enough = some ⟨ocf_Form_is_enough, odf_Form_is_enough, .func (PySem.W.fnOf "is_enough" "Form.is_enough" (defArgs s_Form_is_enough) (defBody s_Form_is_enough) (defScope s_Form_is_enough) .none kVf_Form_is_enough dcf_Form_is_enough pmf_Form_is_enough anf_Form_is_enough cdf_Form_is_enough ctf_Form_is_enough), slf_Form_is_enough⟩)
    (cf_Form_is_enough : PySem.W.codeIn K cdf_Form_is_enough "Form.is_enough" = true)
    (kf_Form_is_enough : PySem.W.keepIn K (.ref a_Form_is_enough) = true)
    (af_Store_init : PySem.W.findIn K (.ref cStore) "__init__" = some (some (.ref a_Store_init)))
    (if_Store_init : PySem.W.isFn K (.ref a_Store_init) = true)
    (lf_Store_init : K.lookup a_Store_init = some ⟨ocf_Store_init, odf_Store_init, .func (PySem.W.fnOf "__init__" "Store.__init__" (defArgs s_Store_init) (defBody s_Store_init) (defScope s_Store_init) .none kVf_Store_init dcf_Store_init pmf_Store_init anf_Store_init cdf_Store_init ctf_Store_init), slf_Store_init⟩)
    (cf_Store_init : PySem.W.codeIn K cdf_Store_init "Store.__init__" = true)
    (kf_Store_init : PySem.W.keepIn K (.ref a_Store_init) = true)
    (af_Store_make : PySem.W.findIn K (.ref cStore) "make" = some (some (.ref a_Store_make)))
    (if_Store_make : PySem.W.isFn K (.ref a_Store_make) = true)
    (lf_Store_make : K.lookup a_Store_make = some ⟨ocf_Store_make, odf_Store_make, .func (PySem.W.fnOf "make" "Store.make" (defArgs s_Store_make) (defBody s_Store_make) (defScope s_Store_make) .none kVf_Store_make dcf_Store_make pmf_Store_make anf_Store_make cdf_Store_make ctf_Store_make), slf_Store_make⟩)
    (cf_Store_make : PySem.W.codeIn K cdf_Store_make "Store.make" = true)
    (kf_Store_make : PySem.W.keepIn K (.ref a_Store_make) = true)
    (af_Store_at : PySem.W.findIn K (.ref cStore) "at" = some (some (.ref a_Store_at)))
    (if_Store_at : PySem.W.isFn K (.ref a_Store_at) = true)
    (lf_Store_at : K.lookup a_Store_at = some ⟨ocf_Store_at, odf_Store_at, .func (PySem.W.fnOf "at" "Store.at" (defArgs s_Store_at) (defBody s_Store_at) (defScope s_Store_at) .none kVf_Store_at dcf_Store_at pmf_Store_at anf_Store_at cdf_Store_at ctf_Store_at), slf_Store_at⟩)
    (cf_Store_at : PySem.W.codeIn K cdf_Store_at "Store.at" = true)
    (kf_Store_at : PySem.W.keepIn K (.ref a_Store_at) = true)
    (qMOST_HELD : PySem.W.nsIn K mainGlobals "MOST_HELD" = some (some (.int 1000 tkMOST_HELD)))
    (qDOUBTFUL_BITS : PySem.W.nsIn K mainGlobals "DOUBTFUL_BITS" = some (some (.int 997 tkDOUBTFUL_BITS)))
    (qMOST_AROUND : PySem.W.nsIn K mainGlobals "MOST_AROUND" = some (some (.int 10 tkMOST_AROUND)))
    (k_Ref_Parts : PySem.W.kitOne K (.ref cRef) (.ref cParts) = some false)
    (k_Ref_Table : PySem.W.kitOne K (.ref cRef) (.ref cTable) = some false)
    (k_Ref_Instance : PySem.W.kitOne K (.ref cRef) (.ref cInstance) = some false)
    (k_Ref_Kin : PySem.W.kitOne K (.ref cRef) (.ref cKin) = some false)
    (k_Ref_bool : PySem.W.kitOne K (.ref cRef) (.type "bool") = some false)
    (k_Ref_int : PySem.W.kitOne K (.ref cRef) (.type "int") = some false)
    (k_Ref_str : PySem.W.kitOne K (.ref cRef) (.type "str") = some false)
    (k_Ref_list : PySem.W.kitOne K (.ref cRef) (.type "list") = some false)
    (k_Parts_Ref : PySem.W.kitOne K (.ref cParts) (.ref cRef) = some false)
    (k_Parts_Table : PySem.W.kitOne K (.ref cParts) (.ref cTable) = some false)
    (k_Parts_Instance : PySem.W.kitOne K (.ref cParts) (.ref cInstance) = some false)
    (k_Parts_Kin : PySem.W.kitOne K (.ref cParts) (.ref cKin) = some false)
    (k_Parts_bool : PySem.W.kitOne K (.ref cParts) (.type "bool") = some false)
    (k_Parts_int : PySem.W.kitOne K (.ref cParts) (.type "int") = some false)
    (k_Parts_str : PySem.W.kitOne K (.ref cParts) (.type "str") = some false)
    (k_Parts_list : PySem.W.kitOne K (.ref cParts) (.type "list") = some false)
    (k_Table_Ref : PySem.W.kitOne K (.ref cTable) (.ref cRef) = some false)
    (k_Table_Parts : PySem.W.kitOne K (.ref cTable) (.ref cParts) = some false)
    (k_Table_Instance : PySem.W.kitOne K (.ref cTable) (.ref cInstance) = some false)
    (k_Table_Kin : PySem.W.kitOne K (.ref cTable) (.ref cKin) = some false)
    (k_Table_bool : PySem.W.kitOne K (.ref cTable) (.type "bool") = some false)
    (k_Table_int : PySem.W.kitOne K (.ref cTable) (.type "int") = some false)
    (k_Table_str : PySem.W.kitOne K (.ref cTable) (.type "str") = some false)
    (k_Table_list : PySem.W.kitOne K (.ref cTable) (.type "list") = some false)
    (k_Instance_Ref : PySem.W.kitOne K (.ref cInstance) (.ref cRef) = some false)
    (k_Instance_Parts : PySem.W.kitOne K (.ref cInstance) (.ref cParts) = some false)
    (k_Instance_Table : PySem.W.kitOne K (.ref cInstance) (.ref cTable) = some false)
    (k_Instance_Kin : PySem.W.kitOne K (.ref cInstance) (.ref cKin) = some false)
    (k_Instance_bool : PySem.W.kitOne K (.ref cInstance) (.type "bool") = some false)
    (k_Instance_int : PySem.W.kitOne K (.ref cInstance) (.type "int") = some false)
    (k_Instance_str : PySem.W.kitOne K (.ref cInstance) (.type "str") = some false)
    (k_Instance_list : PySem.W.kitOne K (.ref cInstance) (.type "list") = some false)
    (k_Kin_Ref : PySem.W.kitOne K (.ref cKin) (.ref cRef) = some false)
    (k_Kin_Parts : PySem.W.kitOne K (.ref cKin) (.ref cParts) = some false)
    (k_Kin_Table : PySem.W.kitOne K (.ref cKin) (.ref cTable) = some false)
    (k_Kin_Instance : PySem.W.kitOne K (.ref cKin) (.ref cInstance) = some false)
    (k_Kin_bool : PySem.W.kitOne K (.ref cKin) (.type "bool") = some false)
    (k_Kin_int : PySem.W.kitOne K (.ref cKin) (.type "int") = some false)
    (k_Kin_str : PySem.W.kitOne K (.ref cKin) (.type "str") = some false)
    (k_Kin_list : PySem.W.kitOne K (.ref cKin) (.type "list") = some false)
    (k_Form_Ref : PySem.W.kitOne K (.ref cForm) (.ref cRef) = some false)
    (k_Form_Parts : PySem.W.kitOne K (.ref cForm) (.ref cParts) = some false)
    (k_Form_Table : PySem.W.kitOne K (.ref cForm) (.ref cTable) = some false)
    (k_Form_Instance : PySem.W.kitOne K (.ref cForm) (.ref cInstance) = some false)
    (k_Form_Kin : PySem.W.kitOne K (.ref cForm) (.ref cKin) = some false)
    (k_Form_bool : PySem.W.kitOne K (.ref cForm) (.type "bool") = some false)
    (k_Form_int : PySem.W.kitOne K (.ref cForm) (.type "int") = some false)
    (k_Form_str : PySem.W.kitOne K (.ref cForm) (.type "str") = some false)
    (k_Form_list : PySem.W.kitOne K (.ref cForm) (.type "list") = some false)
    (k_Store_Ref : PySem.W.kitOne K (.ref cStore) (.ref cRef) = some false)
    (k_Store_Parts : PySem.W.kitOne K (.ref cStore) (.ref cParts) = some false)
    (k_Store_Table : PySem.W.kitOne K (.ref cStore) (.ref cTable) = some false)
    (k_Store_Instance : PySem.W.kitOne K (.ref cStore) (.ref cInstance) = some false)
    (k_Store_Kin : PySem.W.kitOne K (.ref cStore) (.ref cKin) = some false)
    (k_Store_bool : PySem.W.kitOne K (.ref cStore) (.type "bool") = some false)
    (k_Store_int : PySem.W.kitOne K (.ref cStore) (.type "int") = some false)
    (k_Store_str : PySem.W.kitOne K (.ref cStore) (.type "str") = some false)
    (k_Store_list : PySem.W.kitOne K (.ref cStore) (.type "list") = some false)
    (k_NoneType_Ref : PySem.W.kitOne K (.type "NoneType") (.ref cRef) = some false)
    (k_NoneType_Parts : PySem.W.kitOne K (.type "NoneType") (.ref cParts) = some false)
    (k_NoneType_Table : PySem.W.kitOne K (.type "NoneType") (.ref cTable) = some false)
    (k_NoneType_Instance : PySem.W.kitOne K (.type "NoneType") (.ref cInstance) = some false)
    (k_NoneType_Kin : PySem.W.kitOne K (.type "NoneType") (.ref cKin) = some false)
    (k_bool_Ref : PySem.W.kitOne K (.type "bool") (.ref cRef) = some false)
    (k_bool_Parts : PySem.W.kitOne K (.type "bool") (.ref cParts) = some false)
    (k_bool_Table : PySem.W.kitOne K (.type "bool") (.ref cTable) = some false)
    (k_bool_Instance : PySem.W.kitOne K (.type "bool") (.ref cInstance) = some false)
    (k_bool_Kin : PySem.W.kitOne K (.type "bool") (.ref cKin) = some false)
    (k_int_Ref : PySem.W.kitOne K (.type "int") (.ref cRef) = some false)
    (k_int_Parts : PySem.W.kitOne K (.type "int") (.ref cParts) = some false)
    (k_int_Table : PySem.W.kitOne K (.type "int") (.ref cTable) = some false)
    (k_int_Instance : PySem.W.kitOne K (.type "int") (.ref cInstance) = some false)
    (k_int_Kin : PySem.W.kitOne K (.type "int") (.ref cKin) = some false)
    (k_str_Ref : PySem.W.kitOne K (.type "str") (.ref cRef) = some false)
    (k_str_Parts : PySem.W.kitOne K (.type "str") (.ref cParts) = some false)
    (k_str_Table : PySem.W.kitOne K (.type "str") (.ref cTable) = some false)
    (k_str_Instance : PySem.W.kitOne K (.type "str") (.ref cInstance) = some false)
    (k_str_Kin : PySem.W.kitOne K (.type "str") (.ref cKin) = some false)
    (k_tuple_Ref : PySem.W.kitOne K (.type "tuple") (.ref cRef) = some false)
    (k_tuple_Parts : PySem.W.kitOne K (.type "tuple") (.ref cParts) = some false)
    (k_tuple_Table : PySem.W.kitOne K (.type "tuple") (.ref cTable) = some false)
    (k_tuple_Instance : PySem.W.kitOne K (.type "tuple") (.ref cInstance) = some false)
    (k_tuple_Kin : PySem.W.kitOne K (.type "tuple") (.ref cKin) = some false)
    (k_list_Ref : PySem.W.kitOne K (.type "list") (.ref cRef) = some false)
    (k_list_Parts : PySem.W.kitOne K (.type "list") (.ref cParts) = some false)
    (k_list_Table : PySem.W.kitOne K (.type "list") (.ref cTable) = some false)
    (k_list_Instance : PySem.W.kitOne K (.type "list") (.ref cInstance) = some false)
    (k_list_Kin : PySem.W.kitOne K (.type "list") (.ref cKin) = some false)
    (nf_Ref_NoneType : PySem.W.notFirst K cRef (.type "NoneType") = true)
    (su_Ref_NoneType : PySem.W.subIn K (.ref cRef) (.type "NoneType") = some false)
    (nf_Ref_int : PySem.W.notFirst K cRef (.type "int") = true)
    (su_Ref_int : PySem.W.subIn K (.ref cRef) (.type "int") = some false)
    (nf_Ref_str : PySem.W.notFirst K cRef (.type "str") = true)
    (su_Ref_str : PySem.W.subIn K (.ref cRef) (.type "str") = some false)
    (nf_Ref_tuple : PySem.W.notFirst K cRef (.type "tuple") = true)
    (su_Ref_tuple : PySem.W.subIn K (.ref cRef) (.type "tuple") = some false)
    (nf_Ref_list : PySem.W.notFirst K cRef (.type "list") = true)
    (su_Ref_list : PySem.W.subIn K (.ref cRef) (.type "list") = some false)
    (nf_Ref_Parts : PySem.W.notFirst K cRef (.ref cParts) = true)
    (nf_Ref_Table : PySem.W.notFirst K cRef (.ref cTable) = true)
    (nf_Ref_Instance : PySem.W.notFirst K cRef (.ref cInstance) = true)
    (nf_Ref_Kin : PySem.W.notFirst K cRef (.ref cKin) = true)
    (nf_Ref_Form : PySem.W.notFirst K cRef (.ref cForm) = true)
    (nf_Ref_Store : PySem.W.notFirst K cRef (.ref cStore) = true)
    (zrange : PySem.W.nsIn K mainGlobals "range" = some none)
    (zlen : PySem.W.nsIn K mainGlobals "len" = some none)
    (zint : PySem.W.nsIn K mainGlobals "int" = some none)
    (zstr : PySem.W.nsIn K mainGlobals "str" = some none)
    (zbool : PySem.W.nsIn K mainGlobals "bool" = some none)
    (zisinstance : PySem.W.nsIn K mainGlobals "isinstance" = some none)
    (zlist : PySem.W.nsIn K mainGlobals "list" = some none)
    (zabs : PySem.W.nsIn K mainGlobals "abs" = some none)
    (zmin : PySem.W.nsIn K mainGlobals "min" = some none)
    (zmax : PySem.W.nsIn K mainGlobals "max" = some none)
    (zenumerate : PySem.W.nsIn K mainGlobals "enumerate" = some none)
    (zzip : PySem.W.nsIn K mainGlobals "zip" = some none)
    (zsorted : PySem.W.nsIn K mainGlobals "sorted" = some none)
    (zsum : PySem.W.nsIn K mainGlobals "sum" = some none)
    (udLM : PySem.W.nsIn K mainGlobals "LIST_METHODS" = some (some (.ref aLM)))
    (ldLM : K.lookup aLM = some ⟨.type "dict", none, .dict esLM nnLM, #[]⟩)
    (kdLM : PySem.W.KeysLit w.params esLM.toList)
    (lowLM : (aLM == sysModules) = false)
    (miss0 : PySem.W.nsIn K aLM "keys" = some none)
    (miss1 : PySem.W.nsIn K aLM "upper" = some none)
    (miss2 : PySem.W.nsIn K aLM "pushed" = some none)
    (miss3 : PySem.W.nsIn K aLM "" = some none)
    (miss4 : PySem.W.nsIn K aLM "size" = some none)
    (nd0 : PySem.W.nsIn K aLM "push" = some (some (.ref tA0)))
    (lt0 : K.lookup tA0 = some ⟨.type "tuple", tD0, .seq tI0 tN0, tO0⟩)
    (vt0 : Vals [.ref a_push, .ref qA0] tI0.toList)
    (st0 : tI0.size ≤ sizeLine)
    (lq0 : K.lookup qA0 = some ⟨.type "tuple", qD0, .seq qI0 qN0, qO0⟩)
    (vq0 : Vals [.str "any"] qI0.toList)
    (sq0 : qI0.size ≤ sizeLine)
    (nd1 : PySem.W.nsIn K aLM "insert" = some (some (.ref tA1)))
    (lt1 : K.lookup tA1 = some ⟨.type "tuple", tD1, .seq tI1 tN1, tO1⟩)
    (vt1 : Vals [.ref a_insert, .ref qA1] tI1.toList)
    (st1 : tI1.size ≤ sizeLine)
    (lq1 : K.lookup qA1 = some ⟨.type "tuple", qD1, .seq qI1 qN1, qO1⟩)
    (vq1 : Vals [.str "integer", .str "any"] qI1.toList)
    (sq1 : qI1.size ≤ sizeLine)
    (nd2 : PySem.W.nsIn K aLM "pop" = some (some (.ref tA2)))
    (lt2 : K.lookup tA2 = some ⟨.type "tuple", tD2, .seq tI2 tN2, tO2⟩)
    (vt2 : Vals [.ref a_take_last, .ref qA2] tI2.toList)
    (st2 : tI2.size ≤ sizeLine)
    (lq2 : K.lookup qA2 = some ⟨.type "tuple", qD2, .seq qI2 qN2, qO2⟩)
    (vq2 : Vals [] qI2.toList)
    (sq2 : qI2.size ≤ sizeLine)
    (nd3 : PySem.W.nsIn K aLM "remove" = some (some (.ref tA3)))
    (lt3 : K.lookup tA3 = some ⟨.type "tuple", tD3, .seq tI3 tN3, tO3⟩)
    (vt3 : Vals [.ref a_take_out_lists, .ref qA3] tI3.toList)
    (st3 : tI3.size ≤ sizeLine)
    (lq3 : K.lookup qA3 = some ⟨.type "tuple", qD3, .seq qI3 qN3, qO3⟩)
    (vq3 : Vals [.str "integer"] qI3.toList)
    (sq3 : qI3.size ≤ sizeLine)
    (nd4 : PySem.W.nsIn K aLM "length" = some (some (.ref tA4)))
    (lt4 : K.lookup tA4 = some ⟨.type "tuple", tD4, .seq tI4 tN4, tO4⟩)
    (vt4 : Vals [.ref a_length_lists, .ref qA4] tI4.toList)
    (st4 : tI4.size ≤ sizeLine)
    (lq4 : K.lookup qA4 = some ⟨.type "tuple", qD4, .seq qI4 qN4, qO4⟩)
    (vq4 : Vals [] qI4.toList)
    (sq4 : qI4.size ≤ sizeLine)
    (nd5 : PySem.W.nsIn K aLM "slice" = some (some (.ref tA5)))
    (lt5 : K.lookup tA5 = some ⟨.type "tuple", tD5, .seq tI5 tN5, tO5⟩)
    (vt5 : Vals [.ref a_part_between_lists, .ref qA5] tI5.toList)
    (st5 : tI5.size ≤ sizeLine)
    (lq5 : K.lookup qA5 = some ⟨.type "tuple", qD5, .seq qI5 qN5, qO5⟩)
    (vq5 : Vals [.str "integer", .str "integer"] qI5.toList)
    (sq5 : qI5.size ≤ sizeLine)
    (nd6 : PySem.W.nsIn K aLM "contains" = some (some (.ref tA6)))
    (lt6 : K.lookup tA6 = some ⟨.type "tuple", tD6, .seq tI6 tN6, tO6⟩)
    (vt6 : Vals [.ref a_contains_lists, .ref qA6] tI6.toList)
    (st6 : tI6.size ≤ sizeLine)
    (lq6 : K.lookup qA6 = some ⟨.type "tuple", qD6, .seq qI6 qN6, qO6⟩)
    (vq6 : Vals [.str "any"] qI6.toList)
    (sq6 : qI6.size ≤ sizeLine)
    (nd7 : PySem.W.nsIn K aLM "find" = some (some (.ref tA7)))
    (lt7 : K.lookup tA7 = some ⟨.type "tuple", tD7, .seq tI7 tN7, tO7⟩)
    (vt7 : Vals [.ref a_find_lists, .ref qA7] tI7.toList)
    (st7 : tI7.size ≤ sizeLine)
    (lq7 : K.lookup qA7 = some ⟨.type "tuple", qD7, .seq qI7 qN7, qO7⟩)
    (vq7 : Vals [.str "any"] qI7.toList)
    (sq7 : qI7.size ≤ sizeLine)
    (nd8 : PySem.W.nsIn K aLM "count" = some (some (.ref tA8)))
    (lt8 : K.lookup tA8 = some ⟨.type "tuple", tD8, .seq tI8 tN8, tO8⟩)
    (vt8 : Vals [.ref a_count, .ref qA8] tI8.toList)
    (st8 : tI8.size ≤ sizeLine)
    (lq8 : K.lookup qA8 = some ⟨.type "tuple", qD8, .seq qI8 qN8, qO8⟩)
    (vq8 : Vals [.str "any"] qI8.toList)
    (sq8 : qI8.size ≤ sizeLine)
    (nd9 : PySem.W.nsIn K aLM "reverse" = some (some (.ref tA9)))
    (lt9 : K.lookup tA9 = some ⟨.type "tuple", tD9, .seq tI9 tN9, tO9⟩)
    (vt9 : Vals [.ref a_turn_around_lists, .ref qA9] tI9.toList)
    (st9 : tI9.size ≤ sizeLine)
    (lq9 : K.lookup qA9 = some ⟨.type "tuple", qD9, .seq qI9 qN9, qO9⟩)
    (vq9 : Vals [] qI9.toList)
    (sq9 : qI9.size ≤ sizeLine)
    (nd10 : PySem.W.nsIn K aLM "copy" = some (some (.ref tA10)))
    (lt10 : K.lookup tA10 = some ⟨.type "tuple", tD10, .seq tI10 tN10, tO10⟩)
    (vt10 : Vals [.ref a_copy_lists, .ref qA10] tI10.toList)
    (st10 : tI10.size ≤ sizeLine)
    (lq10 : K.lookup qA10 = some ⟨.type "tuple", qD10, .seq qI10 qN10, qO10⟩)
    (vq10 : Vals [] qI10.toList)
    (sq10 : qI10.size ≤ sizeLine)
    (nd11 : PySem.W.nsIn K aLM "extend" = some (some (.ref tA11)))
    (lt11 : K.lookup tA11 = some ⟨.type "tuple", tD11, .seq tI11 tN11, tO11⟩)
    (vt11 : Vals [.ref a_extend, .ref qA11] tI11.toList)
    (st11 : tI11.size ≤ sizeLine)
    (lq11 : K.lookup qA11 = some ⟨.type "tuple", qD11, .seq qI11 qN11, qO11⟩)
    (vq11 : Vals [.str "list"] qI11.toList)
    (sq11 : qI11.size ≤ sizeLine)
    : ∃ fd : FuncData, (∀ (s : Shared) (v : Value), BindsTo s fd ⟨[v], []⟩ [("script", v)]) ∧ ∀ base : Heap, K.In base → base.Ns mainGlobals mg → FnOk l.prog w K mg base CX0 12 fa fd ["script"] (spLaw K) := by
  have e := hfa.symm.trans (PySem.W.mg_of X G alaw)
  cases e
  have KlRef : Cls K cRef := ⟨pgRef, hdRef, poRef, saRef⟩
  have tyRef : ∀ {H : Hp} {a dx : Addr} {fs : List (Str × V)}, H a = some (.ins cRef dx fs) → TyX K H (.ref a) (.ref cRef) := fun e => .base (.ins e KlRef haRef hnTy htTy hmRef)
  have KlParts : Cls K cParts := ⟨pgParts, hdParts, poParts, saParts⟩
  have tyParts : ∀ {H : Hp} {a dx : Addr} {fs : List (Str × V)}, H a = some (.ins cParts dx fs) → TyX K H (.ref a) (.ref cParts) := fun e => .base (.ins e KlParts haParts hnTy htTy hmParts)
  have KlTable : Cls K cTable := ⟨pgTable, hdTable, poTable, saTable⟩
  have tyTable : ∀ {H : Hp} {a dx : Addr} {fs : List (Str × V)}, H a = some (.ins cTable dx fs) → TyX K H (.ref a) (.ref cTable) := fun e => .base (.ins e KlTable haTable hnTy htTy hmTable)
  have KlInstance : Cls K cInstance := ⟨pgInstance, hdInstance, poInstance, saInstance⟩
  have tyInstance : ∀ {H : Hp} {a dx : Addr} {fs : List (Str × V)}, H a = some (.ins cInstance dx fs) → TyX K H (.ref a) (.ref cInstance) := fun e => .base (.ins e KlInstance haInstance hnTy htTy hmInstance)
  have KlKin : Cls K cKin := ⟨pgKin, hdKin, poKin, saKin⟩
  have tyKin : ∀ {H : Hp} {a dx : Addr} {fs : List (Str × V)}, H a = some (.ins cKin dx fs) → TyX K H (.ref a) (.ref cKin) := fun e => .base (.ins e KlKin haKin hnTy htTy hmKin)
  have KlForm : Cls K cForm := ⟨pgForm, hdForm, poForm, saForm⟩
  have tyForm : ∀ {H : Hp} {a dx : Addr} {fs : List (Str × V)}, H a = some (.ins cForm dx fs) → TyX K H (.ref a) (.ref cForm) := fun e => .base (.ins e KlForm haForm hnTy htTy hmForm)
  have KlStore : Cls K cStore := ⟨pgStore, hdStore, poStore, saStore⟩
  have tyStore : ∀ {H : Hp} {a dx : Addr} {fs : List (Str × V)}, H a = some (.ins cStore dx fs) → TyX K H (.ref a) (.ref cStore) := fun e => .base (.ins e KlStore haStore hnTy htTy hmStore)
  have oexScriptError : OexC K cScriptError := ⟨⟨nmScriptError, qScriptError, NScriptError, bsScriptError, _, snScriptError, subScriptError, abScriptError, colScriptError, ddScriptError, m0ScriptError, m1ScriptError, m2ScriptError, m3ScriptError, m5ScriptError, xScriptError, by rfl⟩, saScriptError, exScriptError, tpScriptError, kpScriptError⟩
  have TScriptError : Exn l.prog K mg cScriptError fScriptError "kind" "message" := ⟨oexScriptError, n1ScriptError, n2ScriptError, iScriptError, tiScriptError, ⟨gaScriptError, ggScriptError, exScriptError, hdScriptError⟩, PySem.W.exm_ref exScriptError hdScriptError tpScriptError ssScriptError⟩
  have UScriptError : Sup l.prog K mg cdaScriptError ccScriptError cScriptError cScriptError := ⟨⟨_, _, _, _, _, _, coScriptError, cvScriptError, fiScriptError⟩, ⟨_, _, _, ceScriptError⟩, toSup, PySem.W.mg_none_of X G suSup, (PySem.W.any_some hdScriptError).imp fun _ h => h.1, mrScriptError, opSup, ksScriptError, vaScriptError⟩
  have bScriptError : Binds K (PySem.W.ksFn "__init__" "ScriptError.__init__" (defArgs sx_ScriptError) (defBody sx_ScriptError) (defScope sx_ScriptError) .none kVScriptError dcScriptError pmScriptError anScriptError (.ref cdaScriptError) ctScriptError ccScriptError) ["self", "kind", "message"] [] := .all fun us hl => match us, hl with | [_, _, _], _ => rfl
  have ecScriptError : ExcC K cScriptError := ⟨gaScriptError, ggScriptError, exScriptError, hdScriptError, haScriptError, hnTy, htTy, hmScriptError⟩
  have Ff_tagged := fun_mk (st := s_tagged) lf_tagged cf_tagged kf_tagged
  have bf_tagged := Ff_tagged.binds (ps := ["key"]) fun _ _ _ _ _ _ us hl => match us, hl with | [_], _ => rfl
  have glf_tagged := PySem.W.mg_of X G af_tagged
  have Ff_kind_of := fun_mk (st := s_kind_of) lf_kind_of cf_kind_of kf_kind_of
  have bf_kind_of := Ff_kind_of.binds (ps := ["store", "value"]) fun _ _ _ _ _ _ us hl => match us, hl with | [_, _], _ => rfl
  have glf_kind_of := PySem.W.mg_of X G af_kind_of
  have Ff_kind_of_thing := fun_mk (st := s_kind_of_thing) lf_kind_of_thing cf_kind_of_thing kf_kind_of_thing
  have bf_kind_of_thing := Ff_kind_of_thing.binds (ps := ["thing"]) fun _ _ _ _ _ _ us hl => match us, hl with | [_], _ => rfl
  have glf_kind_of_thing := PySem.W.mg_of X G af_kind_of_thing
  have Ff_equal := fun_mk (st := s_equal) lf_equal cf_equal kf_equal
  have bf_equal := Ff_equal.binds (ps := ["x", "y"]) fun _ _ _ _ _ _ us hl => match us, hl with | [_, _], _ => rfl
  have glf_equal := PySem.W.mg_of X G af_equal
  have Ff_is_key := fun_mk (st := s_is_key) lf_is_key cf_is_key kf_is_key
  have bf_is_key := Ff_is_key.binds (ps := ["value"]) fun _ _ _ _ _ _ us hl => match us, hl with | [_], _ => rfl
  have glf_is_key := PySem.W.mg_of X G af_is_key
  have Ff_check_size := fun_mk (st := s_check_size) lf_check_size cf_check_size kf_check_size
  have bf_check_size := Ff_check_size.binds (ps := ["size"]) fun _ _ _ _ _ _ us hl => match us, hl with | [_], _ => rfl
  have glf_check_size := PySem.W.mg_of X G af_check_size
  have Ff_is_bounded := fun_mk (st := s_is_bounded) lf_is_bounded cf_is_bounded kf_is_bounded
  have bf_is_bounded := Ff_is_bounded.binds (ps := ["number"]) fun _ _ _ _ _ _ us hl => match us, hl with | [_], _ => rfl
  have glf_is_bounded := PySem.W.mg_of X G af_is_bounded
  have Ff_checked_integer := fun_mk (st := s_checked_integer) lf_checked_integer cf_checked_integer kf_checked_integer
  have bf_checked_integer := Ff_checked_integer.binds (ps := ["number"]) fun _ _ _ _ _ _ us hl => match us, hl with | [_], _ => rfl
  have glf_checked_integer := PySem.W.mg_of X G af_checked_integer
  have Ff_check_place := fun_mk (st := s_check_place) lf_check_place cf_check_place kf_check_place
  have bf_check_place := Ff_check_place.binds (ps := ["index", "length"]) fun _ _ _ _ _ _ us hl => match us, hl with | [_, _], _ => rfl
  have glf_check_place := PySem.W.mg_of X G af_check_place
  have Ff_check_gap := fun_mk (st := s_check_gap) lf_check_gap cf_check_gap kf_check_gap
  have bf_check_gap := Ff_check_gap.binds (ps := ["index", "length"]) fun _ _ _ _ _ _ us hl => match us, hl with | [_, _], _ => rfl
  have glf_check_gap := PySem.W.mg_of X G af_check_gap
  have Ff_check_gaps := fun_mk (st := s_check_gaps) lf_check_gaps cf_check_gaps kf_check_gaps
  have bf_check_gaps := Ff_check_gaps.binds (ps := ["start", "stop", "length"]) fun _ _ _ _ _ _ us hl => match us, hl with | [_, _, _], _ => rfl
  have glf_check_gaps := PySem.W.mg_of X G af_check_gaps
  have Ff_check_count := fun_mk (st := s_check_count) lf_check_count cf_check_count kf_check_count
  have bf_check_count := Ff_check_count.binds (ps := ["values", "wanted"]) fun _ _ _ _ _ _ us hl => match us, hl with | [_, _], _ => rfl
  have glf_check_count := PySem.W.mg_of X G af_check_count
  have Ff_check_arguments := fun_mk (st := s_check_arguments) lf_check_arguments cf_check_arguments kf_check_arguments
  have bf_check_arguments := Ff_check_arguments.binds (ps := ["store", "values", "kinds"]) fun _ _ _ _ _ _ us hl => match us, hl with | [_, _, _], _ => rfl
  have glf_check_arguments := PySem.W.mg_of X G af_check_arguments
  have Ff_check_kind := fun_mk (st := s_check_kind) lf_check_kind cf_check_kind kf_check_kind
  have bf_check_kind := Ff_check_kind.binds (ps := ["store", "value", "kind"]) fun _ _ _ _ _ _ us hl => match us, hl with | [_, _, _], _ => rfl
  have glf_check_kind := PySem.W.mg_of X G af_check_kind
  have Ff_check_alike := fun_mk (st := s_check_alike) lf_check_alike cf_check_alike kf_check_alike
  have bf_check_alike := Ff_check_alike.binds (ps := ["store", "values"]) fun _ _ _ _ _ _ us hl => match us, hl with | [_, _], _ => rfl
  have glf_check_alike := PySem.W.mg_of X G af_check_alike
  have Ff_refuse_field := fun_mk (st := s_refuse_field) lf_refuse_field cf_refuse_field kf_refuse_field
  have bf_refuse_field := Ff_refuse_field.binds (ps := ["store", "x", "name"]) fun _ _ _ _ _ _ us hl => match us, hl with | [_, _, _], _ => rfl
  have glf_refuse_field := PySem.W.mg_of X G af_refuse_field
  have Ff_get_item := fun_mk (st := s_get_item) lf_get_item cf_get_item kf_get_item
  have bf_get_item := Ff_get_item.binds (ps := ["store", "x", "i"]) fun _ _ _ _ _ _ us hl => match us, hl with | [_, _, _], _ => rfl
  have glf_get_item := PySem.W.mg_of X G af_get_item
  have Ff_value_at := fun_mk (st := s_value_at) lf_value_at cf_value_at kf_value_at
  have bf_value_at := Ff_value_at.binds (ps := ["table", "key"]) fun _ _ _ _ _ _ us hl => match us, hl with | [_, _], _ => rfl
  have glf_value_at := PySem.W.mg_of X G af_value_at
  have Ff_set_item := fun_mk (st := s_set_item) lf_set_item cf_set_item kf_set_item
  have bf_set_item := Ff_set_item.binds (ps := ["store", "x", "i", "value"]) fun _ _ _ _ _ _ us hl => match us, hl with | [_, _, _, _], _ => rfl
  have glf_set_item := PySem.W.mg_of X G af_set_item
  have Ff_refuse_index := fun_mk (st := s_refuse_index) lf_refuse_index cf_refuse_index kf_refuse_index
  have bf_refuse_index := Ff_refuse_index.binds (ps := ["kind"]) fun _ _ _ _ _ _ us hl => match us, hl with | [_], _ => rfl
  have glf_refuse_index := PySem.W.mg_of X G af_refuse_index
  have Ff_check_key := fun_mk (st := s_check_key) lf_check_key cf_check_key kf_check_key
  have bf_check_key := Ff_check_key.binds (ps := ["key"]) fun _ _ _ _ _ _ us hl => match us, hl with | [_], _ => rfl
  have glf_check_key := PySem.W.mg_of X G af_check_key
  have Ff_put_entry := fun_mk (st := s_put_entry) lf_put_entry cf_put_entry kf_put_entry
  have bf_put_entry := Ff_put_entry.binds (ps := ["table", "key", "value"]) fun _ _ _ _ _ _ us hl => match us, hl with | [_, _, _], _ => rfl
  have glf_put_entry := PySem.W.mg_of X G af_put_entry
  have Ff_make_list := fun_mk (st := s_make_list) lf_make_list cf_make_list kf_make_list
  have bf_make_list := Ff_make_list.binds (ps := ["store", "values"]) fun _ _ _ _ _ _ us hl => match us, hl with | [_, _], _ => rfl
  have glf_make_list := PySem.W.mg_of X G af_make_list
  have Ff_make_map := fun_mk (st := s_make_map) lf_make_map cf_make_map kf_make_map
  have bf_make_map := Ff_make_map.binds (ps := ["store", "pairs"]) fun _ _ _ _ _ _ us hl => match us, hl with | [_, _], _ => rfl
  have glf_make_map := PySem.W.mg_of X G af_make_map
  have Ff_quoted := fun_mk (st := s_quoted) lf_quoted cf_quoted kf_quoted
  have bf_quoted := Ff_quoted.binds (ps := ["text"]) fun _ _ _ _ _ _ us hl => match us, hl with | [_], _ => rfl
  have glf_quoted := PySem.W.mg_of X G af_quoted
  have Ff_write_value := fun_mk (st := s_write_value) lf_write_value cf_write_value kf_write_value
  have bf_write_value := Ff_write_value.binds (ps := ["store", "value", "most"]) fun _ _ _ _ _ _ us hl => match us, hl with | [_, _, _], _ => rfl
  have glf_write_value := PySem.W.mg_of X G af_write_value
  have Ff_text_of := fun_mk (st := s_text_of) lf_text_of cf_text_of kf_text_of
  have bf_text_of := Ff_text_of.binds (ps := ["store", "value", "most"]) fun _ _ _ _ _ _ us hl => match us, hl with | [_, _, _], _ => rfl
  have glf_text_of := PySem.W.mg_of X G af_text_of
  have Ff_write := fun_mk (st := s_write) lf_write cf_write kf_write
  have bf_write := Ff_write.binds (ps := ["form", "value"]) fun _ _ _ _ _ _ us hl => match us, hl with | [_, _], _ => rfl
  have glf_write := PySem.W.mg_of X G af_write
  have Ff_write_around := fun_mk (st := s_write_around) lf_write_around cf_write_around kf_write_around
  have bf_write_around := Ff_write_around.binds (ps := ["form", "ref", "opening", "closing"]) fun _ _ _ _ _ _ us hl => match us, hl with | [_, _, _, _], _ => rfl
  have glf_write_around := PySem.W.mg_of X G af_write_around
  have Ff_write_held := fun_mk (st := s_write_held) lf_write_held cf_write_held kf_write_held
  have bf_write_held := Ff_write_held.binds (ps := ["form", "thing"]) fun _ _ _ _ _ _ us hl => match us, hl with | [_, _], _ => rfl
  have glf_write_held := PySem.W.mg_of X G af_write_held
  have Ff_held_by := fun_mk (st := s_held_by) lf_held_by cf_held_by kf_held_by
  have bf_held_by := Ff_held_by.binds (ps := ["thing"]) fun _ _ _ _ _ _ us hl => match us, hl with | [_], _ => rfl
  have glf_held_by := PySem.W.mg_of X G af_held_by
  have Ff_plain_form := fun_mk (st := s_plain_form) lf_plain_form cf_plain_form kf_plain_form
  have bf_plain_form := Ff_plain_form.binds (ps := ["form", "value", "thing"]) fun _ _ _ _ _ _ us hl => match us, hl with | [_, _, _], _ => rfl
  have glf_plain_form := PySem.W.mg_of X G af_plain_form
  have Ff_push := fun_mk (st := s_push) lf_push cf_push kf_push
  have bf_push := Ff_push.binds (ps := ["store", "parts", "x"]) fun _ _ _ _ _ _ us hl => match us, hl with | [_, _, _], _ => rfl
  have glf_push := PySem.W.mg_of X G af_push
  have Ff_insert := fun_mk (st := s_insert) lf_insert cf_insert kf_insert
  have bf_insert := Ff_insert.binds (ps := ["store", "parts", "i", "x"]) fun _ _ _ _ _ _ us hl => match us, hl with | [_, _, _, _], _ => rfl
  have glf_insert := PySem.W.mg_of X G af_insert
  have Ff_take_last := fun_mk (st := s_take_last) lf_take_last cf_take_last kf_take_last
  have bf_take_last := Ff_take_last.binds (ps := ["store", "parts"]) fun _ _ _ _ _ _ us hl => match us, hl with | [_, _], _ => rfl
  have glf_take_last := PySem.W.mg_of X G af_take_last
  have Ff_join := fun_mk (st := s_join) lf_join cf_join kf_join
  have bf_join := Ff_join.binds (ps := ["store", "parts", "between"]) fun _ _ _ _ _ _ us hl => match us, hl with | [_, _, _], _ => rfl
  have glf_join := PySem.W.mg_of X G af_join
  have Ff_joined := fun_mk (st := s_joined) lf_joined cf_joined kf_joined
  have bf_joined := Ff_joined.binds (ps := ["store", "values", "between"]) fun _ _ _ _ _ _ us hl => match us, hl with | [_, _, _], _ => rfl
  have glf_joined := PySem.W.mg_of X G af_joined
  have Ff_count := fun_mk (st := s_count) lf_count cf_count kf_count
  have bf_count := Ff_count.binds (ps := ["store", "parts", "x"]) fun _ _ _ _ _ _ us hl => match us, hl with | [_, _, _], _ => rfl
  have glf_count := PySem.W.mg_of X G af_count
  have Ff_sort := fun_mk (st := s_sort) lf_sort cf_sort kf_sort
  have bf_sort := Ff_sort.binds (ps := ["store", "parts"]) fun _ _ _ _ _ _ us hl => match us, hl with | [_, _], _ => rfl
  have glf_sort := PySem.W.mg_of X G af_sort
  have Ff_extend := fun_mk (st := s_extend) lf_extend cf_extend kf_extend
  have bf_extend := Ff_extend.binds (ps := ["store", "parts", "other"]) fun _ _ _ _ _ _ us hl => match us, hl with | [_, _, _], _ => rfl
  have glf_extend := PySem.W.mg_of X G af_extend
  have Ff_total := fun_mk (st := s_total) lf_total cf_total kf_total
  have bf_total := Ff_total.binds (ps := ["store", "parts"]) fun _ _ _ _ _ _ us hl => match us, hl with | [_, _], _ => rfl
  have glf_total := PySem.W.mg_of X G af_total
  have Ff_pair_up := fun_mk (st := s_pair_up) lf_pair_up cf_pair_up kf_pair_up
  have bf_pair_up := Ff_pair_up.binds (ps := ["store", "parts", "other"]) fun _ _ _ _ _ _ us hl => match us, hl with | [_, _, _], _ => rfl
  have glf_pair_up := PySem.W.mg_of X G af_pair_up
  have Ff_make_pairs := fun_mk (st := s_make_pairs) lf_make_pairs cf_make_pairs kf_make_pairs
  have bf_make_pairs := Ff_make_pairs.binds (ps := ["store", "pairs"]) fun _ _ _ _ _ _ us hl => match us, hl with | [_, _], _ => rfl
  have glf_make_pairs := PySem.W.mg_of X G af_make_pairs
  have Ff_has := fun_mk (st := s_has) lf_has cf_has kf_has
  have bf_has := Ff_has.binds (ps := ["store", "table", "key"]) fun _ _ _ _ _ _ us hl => match us, hl with | [_, _, _], _ => rfl
  have glf_has := PySem.W.mg_of X G af_has
  have Ff_keys_of := fun_mk (st := s_keys_of) lf_keys_of cf_keys_of kf_keys_of
  have bf_keys_of := Ff_keys_of.binds (ps := ["store", "table"]) fun _ _ _ _ _ _ us hl => match us, hl with | [_, _], _ => rfl
  have glf_keys_of := PySem.W.mg_of X G af_keys_of
  have Ff_values_of := fun_mk (st := s_values_of) lf_values_of cf_values_of kf_values_of
  have bf_values_of := Ff_values_of.binds (ps := ["store", "table"]) fun _ _ _ _ _ _ us hl => match us, hl with | [_, _], _ => rfl
  have glf_values_of := PySem.W.mg_of X G af_values_of
  have Ff_entries := fun_mk (st := s_entries) lf_entries cf_entries kf_entries
  have bf_entries := Ff_entries.binds (ps := ["store", "table"]) fun _ _ _ _ _ _ us hl => match us, hl with | [_, _], _ => rfl
  have glf_entries := PySem.W.mg_of X G af_entries
  have Ff_get := fun_mk (st := s_get) lf_get cf_get kf_get
  have bf_get := Ff_get.binds (ps := ["store", "table", "key", "other"]) fun _ _ _ _ _ _ us hl => match us, hl with | [_, _, _, _], _ => rfl
  have glf_get := PySem.W.mg_of X G af_get
  have Ff_merge := fun_mk (st := s_merge) lf_merge cf_merge kf_merge
  have bf_merge := Ff_merge.binds (ps := ["store", "table", "other"]) fun _ _ _ _ _ _ us hl => match us, hl with | [_, _, _], _ => rfl
  have glf_merge := PySem.W.mg_of X G af_merge
  have Ff_clear := fun_mk (st := s_clear) lf_clear cf_clear kf_clear
  have bf_clear := Ff_clear.binds (ps := ["store", "table"]) fun _ _ _ _ _ _ us hl => match us, hl with | [_, _], _ => rfl
  have glf_clear := PySem.W.mg_of X G af_clear
  have Ff_in_capitals := fun_mk (st := s_in_capitals) lf_in_capitals cf_in_capitals kf_in_capitals
  have bf_in_capitals := Ff_in_capitals.binds (ps := ["store", "text"]) fun _ _ _ _ _ _ us hl => match us, hl with | [_, _], _ => rfl
  have glf_in_capitals := PySem.W.mg_of X G af_in_capitals
  have Ff_in_small_letters := fun_mk (st := s_in_small_letters) lf_in_small_letters cf_in_small_letters kf_in_small_letters
  have bf_in_small_letters := Ff_in_small_letters.binds (ps := ["store", "text"]) fun _ _ _ _ _ _ us hl => match us, hl with | [_, _], _ => rfl
  have glf_in_small_letters := PySem.W.mg_of X G af_in_small_letters
  have Ff_split := fun_mk (st := s_split) lf_split cf_split kf_split
  have bf_split := Ff_split.binds (ps := ["store", "text", "between"]) fun _ _ _ _ _ _ us hl => match us, hl with | [_, _, _], _ => rfl
  have glf_split := PySem.W.mg_of X G af_split
  have Ff_check_not_empty := fun_mk (st := s_check_not_empty) lf_check_not_empty cf_check_not_empty kf_check_not_empty
  have bf_check_not_empty := Ff_check_not_empty.binds (ps := ["text"]) fun _ _ _ _ _ _ us hl => match us, hl with | [_], _ => rfl
  have glf_check_not_empty := PySem.W.mg_of X G af_check_not_empty
  have Ff_replace := fun_mk (st := s_replace) lf_replace cf_replace kf_replace
  have bf_replace := Ff_replace.binds (ps := ["store", "text", "old", "new"]) fun _ _ _ _ _ _ us hl => match us, hl with | [_, _, _, _], _ => rfl
  have glf_replace := PySem.W.mg_of X G af_replace
  have Ff_trim := fun_mk (st := s_trim) lf_trim cf_trim kf_trim
  have bf_trim := Ff_trim.binds (ps := ["store", "text"]) fun _ _ _ _ _ _ us hl => match us, hl with | [_, _], _ => rfl
  have glf_trim := PySem.W.mg_of X G af_trim
  have Ff_begins_with := fun_mk (st := s_begins_with) lf_begins_with cf_begins_with kf_begins_with
  have bf_begins_with := Ff_begins_with.binds (ps := ["store", "text", "other"]) fun _ _ _ _ _ _ us hl => match us, hl with | [_, _, _], _ => rfl
  have glf_begins_with := PySem.W.mg_of X G af_begins_with
  have Ff_ends_with := fun_mk (st := s_ends_with) lf_ends_with cf_ends_with kf_ends_with
  have bf_ends_with := Ff_ends_with.binds (ps := ["store", "text", "other"]) fun _ _ _ _ _ _ us hl => match us, hl with | [_, _, _], _ => rfl
  have glf_ends_with := PySem.W.mg_of X G af_ends_with
  have Ff_repeat_ := fun_mk (st := s_repeat_) lf_repeat_ cf_repeat_ kf_repeat_
  have bf_repeat_ := Ff_repeat_.binds (ps := ["store", "text", "times"]) fun _ _ _ _ _ _ us hl => match us, hl with | [_, _, _], _ => rfl
  have glf_repeat_ := PySem.W.mg_of X G af_repeat_
  have Ff_lines := fun_mk (st := s_lines) lf_lines cf_lines kf_lines
  have bf_lines := Ff_lines.binds (ps := ["store", "text"]) fun _ _ _ _ _ _ us hl => match us, hl with | [_, _], _ => rfl
  have glf_lines := PySem.W.mg_of X G af_lines
  have Ff_code := fun_mk (st := s_code) lf_code cf_code kf_code
  have bf_code := Ff_code.binds (ps := ["store", "text", "i"]) fun _ _ _ _ _ _ us hl => match us, hl with | [_, _, _], _ => rfl
  have glf_code := PySem.W.mg_of X G af_code
  have Ff_call_method := fun_mk (st := s_call_method) lf_call_method cf_call_method kf_call_method
  have bf_call_method := Ff_call_method.binds (ps := ["store", "x", "name", "values"]) fun _ _ _ _ _ _ us hl => match us, hl with | [_, _, _, _], _ => rfl
  have glf_call_method := PySem.W.mg_of X G af_call_method
  have Ff_method_for := fun_mk (st := s_method_for) lf_method_for cf_method_for kf_method_for
  have bf_method_for := Ff_method_for.binds (ps := ["owner", "name"]) fun _ _ _ _ _ _ us hl => match us, hl with | [_, _], _ => rfl
  have glf_method_for := PySem.W.mg_of X G af_method_for
  have Ff_law_cell := fun_mk (st := s_law_cell) lf_law_cell cf_law_cell kf_law_cell
  have bf_law_cell := Ff_law_cell.binds (ps := ["script", "k"]) fun _ _ _ _ _ _ us hl => match us, hl with | [_, _], _ => rfl
  have glf_law_cell := PySem.W.mg_of X G af_law_cell
  have Ff_law_begin := fun_mk (st := s_law_begin) lf_law_begin cf_law_begin kf_law_begin
  have bf_law_begin := Ff_law_begin.binds (ps := ["script", "k"]) fun _ _ _ _ _ _ us hl => match us, hl with | [_, _], _ => rfl
  have glf_law_begin := PySem.W.mg_of X G af_law_begin
  have Ff_law_draw := fun_mk (st := s_law_draw) lf_law_draw cf_law_draw kf_law_draw
  have bf_law_draw := Ff_law_draw.binds (ps := ["state", "many"]) fun _ _ _ _ _ _ us hl => match us, hl with | [_, _], _ => rfl
  have glf_law_draw := PySem.W.mg_of X G af_law_draw
  have Ff_law_pick := fun_mk (st := s_law_pick) lf_law_pick cf_law_pick kf_law_pick
  have bf_law_pick := Ff_law_pick.binds (ps := ["state", "row"]) fun _ _ _ _ _ _ us hl => match us, hl with | [_, _], _ => rfl
  have glf_law_pick := PySem.W.mg_of X G af_law_pick
  have Ff_law_value := fun_mk (st := s_law_value) lf_law_value cf_law_value kf_law_value
  have bf_law_value := Ff_law_value.binds (ps := ["state"]) fun _ _ _ _ _ _ us hl => match us, hl with | [_], _ => rfl
  have glf_law_value := PySem.W.mg_of X G af_law_value
  have Ff_law_same := fun_mk (st := s_law_same) lf_law_same cf_law_same kf_law_same
  have bf_law_same := Ff_law_same.binds (ps := ["x", "y"]) fun _ _ _ _ _ _ us hl => match us, hl with | [_, _], _ => rfl
  have glf_law_same := PySem.W.mg_of X G af_law_same
  have Ff_law_rows := fun_mk (st := s_law_rows) lf_law_rows cf_law_rows kf_law_rows
  have bf_law_rows := Ff_law_rows.binds (ps := ["told", "due"]) fun _ _ _ _ _ _ us hl => match us, hl with | [_, _], _ => rfl
  have glf_law_rows := PySem.W.mg_of X G af_law_rows
  have Ff_law_call := fun_mk (st := s_law_call) lf_law_call cf_law_call kf_law_call
  have bf_law_call := Ff_law_call.binds (ps := ["store", "name", "values"]) fun _ _ _ _ _ _ us hl => match us, hl with | [_, _, _], _ => rfl
  have glf_law_call := PySem.W.mg_of X G af_law_call
  have Ff_law_item := fun_mk (st := s_law_item) lf_law_item cf_law_item kf_law_item
  have bf_law_item := Ff_law_item.binds (ps := ["store", "deed", "i", "value"]) fun _ _ _ _ _ _ us hl => match us, hl with | [_, _, _, _], _ => rfl
  have glf_law_item := PySem.W.mg_of X G af_law_item
  have Ff_law_places := fun_mk (st := s_law_places) lf_law_places cf_law_places kf_law_places
  have bf_law_places := Ff_law_places.binds (ps := ["row", "value"]) fun _ _ _ _ _ _ us hl => match us, hl with | [_, _], _ => rfl
  have glf_law_places := PySem.W.mg_of X G af_law_places
  have Ff_law_change := fun_mk (st := s_law_change) lf_law_change cf_law_change kf_law_change
  have bf_law_change := Ff_law_change.binds (ps := ["row", "name", "i", "value"]) fun _ _ _ _ _ _ us hl => match us, hl with | [_, _, _, _], _ => rfl
  have glf_law_change := PySem.W.mg_of X G af_law_change
  have Ff_law_found := fun_mk (st := s_law_found) lf_law_found cf_law_found kf_law_found
  have bf_law_found := Ff_law_found.binds (ps := ["row", "name", "value"]) fun _ _ _ _ _ _ us hl => match us, hl with | [_, _, _], _ => rfl
  have glf_law_found := PySem.W.mg_of X G af_law_found
  have Ff_law_equal := fun_mk (st := s_law_equal) lf_law_equal cf_law_equal kf_law_equal
  have bf_law_equal := Ff_law_equal.binds (ps := ["told", "due"]) fun _ _ _ _ _ _ us hl => match us, hl with | [_, _], _ => rfl
  have glf_law_equal := PySem.W.mg_of X G af_law_equal
  have Ff_law_new := fun_mk (st := s_law_new) lf_law_new cf_law_new kf_law_new
  have bf_law_new := Ff_law_new.binds (ps := ["store", "told", "due"]) fun _ _ _ _ _ _ us hl => match us, hl with | [_, _, _], _ => rfl
  have glf_law_new := PySem.W.mg_of X G af_law_new
  have Ff_law_step := fun_mk (st := s_law_step) lf_law_step cf_law_step kf_law_step
  have bf_law_step := Ff_law_step.binds (ps := ["store", "row", "state"]) fun _ _ _ _ _ _ us hl => match us, hl with | [_, _, _], _ => rfl
  have glf_law_step := PySem.W.mg_of X G af_law_step
  have Ff_law_elements := fun_mk (st := s_law_elements) lf_law_elements cf_law_elements kf_law_elements
  have bf_law_elements := Ff_law_elements.binds (ps := ["store", "row", "i", "value", "told"]) fun _ _ _ _ _ _ us hl => match us, hl with | [_, _, _, _, _], _ => rfl
  have glf_law_elements := PySem.W.mg_of X G af_law_elements
  have Ff_law_wrong := fun_mk (st := s_law_wrong) lf_law_wrong cf_law_wrong kf_law_wrong
  have bf_law_wrong := Ff_law_wrong.binds (ps := ["store", "state"]) fun _ _ _ _ _ _ us hl => match us, hl with | [_, _], _ => rfl
  have glf_law_wrong := PySem.W.mg_of X G af_law_wrong
  have Flaw := fun_mk (st := s_law) llaw claw klaw
  have gllaw := PySem.W.mg_of X G alaw
  have Ff_take_out_lists := fun_mk (st := s_take_out_lists) lf_take_out_lists cf_take_out_lists kf_take_out_lists
  have bf_take_out_lists := Ff_take_out_lists.binds (ps := ["store", "parts", "i"]) fun _ _ _ _ _ _ us hl => match us, hl with | [_, _, _], _ => rfl
  have glf_take_out_lists := PySem.W.mg_of X G af_take_out_lists
  have Ff_length_lists := fun_mk (st := s_length_lists) lf_length_lists cf_length_lists kf_length_lists
  have bf_length_lists := Ff_length_lists.binds (ps := ["store", "parts"]) fun _ _ _ _ _ _ us hl => match us, hl with | [_, _], _ => rfl
  have glf_length_lists := PySem.W.mg_of X G af_length_lists
  have Ff_part_between_lists := fun_mk (st := s_part_between_lists) lf_part_between_lists cf_part_between_lists kf_part_between_lists
  have bf_part_between_lists := Ff_part_between_lists.binds (ps := ["store", "parts", "i", "j"]) fun _ _ _ _ _ _ us hl => match us, hl with | [_, _, _, _], _ => rfl
  have glf_part_between_lists := PySem.W.mg_of X G af_part_between_lists
  have Ff_contains_lists := fun_mk (st := s_contains_lists) lf_contains_lists cf_contains_lists kf_contains_lists
  have bf_contains_lists := Ff_contains_lists.binds (ps := ["store", "parts", "x"]) fun _ _ _ _ _ _ us hl => match us, hl with | [_, _, _], _ => rfl
  have glf_contains_lists := PySem.W.mg_of X G af_contains_lists
  have Ff_find_lists := fun_mk (st := s_find_lists) lf_find_lists cf_find_lists kf_find_lists
  have bf_find_lists := Ff_find_lists.binds (ps := ["store", "parts", "x"]) fun _ _ _ _ _ _ us hl => match us, hl with | [_, _, _], _ => rfl
  have glf_find_lists := PySem.W.mg_of X G af_find_lists
  have Ff_turn_around_lists := fun_mk (st := s_turn_around_lists) lf_turn_around_lists cf_turn_around_lists kf_turn_around_lists
  have bf_turn_around_lists := Ff_turn_around_lists.binds (ps := ["store", "parts"]) fun _ _ _ _ _ _ us hl => match us, hl with | [_, _], _ => rfl
  have glf_turn_around_lists := PySem.W.mg_of X G af_turn_around_lists
  have Ff_copy_lists := fun_mk (st := s_copy_lists) lf_copy_lists cf_copy_lists kf_copy_lists
  have bf_copy_lists := Ff_copy_lists.binds (ps := ["store", "parts"]) fun _ _ _ _ _ _ us hl => match us, hl with | [_, _], _ => rfl
  have glf_copy_lists := PySem.W.mg_of X G af_copy_lists
  have Ff_take_out_maps := fun_mk (st := s_take_out_maps) lf_take_out_maps cf_take_out_maps kf_take_out_maps
  have bf_take_out_maps := Ff_take_out_maps.binds (ps := ["store", "table", "key"]) fun _ _ _ _ _ _ us hl => match us, hl with | [_, _, _], _ => rfl
  have glf_take_out_maps := PySem.W.mg_of X G af_take_out_maps
  have Ff_copy_maps := fun_mk (st := s_copy_maps) lf_copy_maps cf_copy_maps kf_copy_maps
  have bf_copy_maps := Ff_copy_maps.binds (ps := ["store", "table"]) fun _ _ _ _ _ _ us hl => match us, hl with | [_, _], _ => rfl
  have glf_copy_maps := PySem.W.mg_of X G af_copy_maps
  have Ff_length_maps := fun_mk (st := s_length_maps) lf_length_maps cf_length_maps kf_length_maps
  have bf_length_maps := Ff_length_maps.binds (ps := ["store", "table"]) fun _ _ _ _ _ _ us hl => match us, hl with | [_, _], _ => rfl
  have glf_length_maps := PySem.W.mg_of X G af_length_maps
  have Ff_length_texts := fun_mk (st := s_length_texts) lf_length_texts cf_length_texts kf_length_texts
  have bf_length_texts := Ff_length_texts.binds (ps := ["store", "text"]) fun _ _ _ _ _ _ us hl => match us, hl with | [_, _], _ => rfl
  have glf_length_texts := PySem.W.mg_of X G af_length_texts
  have Ff_part_between_texts := fun_mk (st := s_part_between_texts) lf_part_between_texts cf_part_between_texts kf_part_between_texts
  have bf_part_between_texts := Ff_part_between_texts.binds (ps := ["store", "text", "i", "j"]) fun _ _ _ _ _ _ us hl => match us, hl with | [_, _, _, _], _ => rfl
  have glf_part_between_texts := PySem.W.mg_of X G af_part_between_texts
  have Ff_find_texts := fun_mk (st := s_find_texts) lf_find_texts cf_find_texts kf_find_texts
  have bf_find_texts := Ff_find_texts.binds (ps := ["store", "text", "other"]) fun _ _ _ _ _ _ us hl => match us, hl with | [_, _, _], _ => rfl
  have glf_find_texts := PySem.W.mg_of X G af_find_texts
  have Ff_contains_texts := fun_mk (st := s_contains_texts) lf_contains_texts cf_contains_texts kf_contains_texts
  have bf_contains_texts := Ff_contains_texts.binds (ps := ["store", "text", "other"]) fun _ _ _ _ _ _ us hl => match us, hl with | [_, _, _], _ => rfl
  have glf_contains_texts := PySem.W.mg_of X G af_contains_texts
  have Ff_turn_around_texts := fun_mk (st := s_turn_around_texts) lf_turn_around_texts cf_turn_around_texts kf_turn_around_texts
  have bf_turn_around_texts := Ff_turn_around_texts.binds (ps := ["store", "text"]) fun _ _ _ _ _ _ us hl => match us, hl with | [_, _], _ => rfl
  have glf_turn_around_texts := PySem.W.mg_of X G af_turn_around_texts
  have Ff_Ref_init := fun_mk (st := s_Ref_init) lf_Ref_init cf_Ref_init kf_Ref_init
  have bf_Ref_init := Ff_Ref_init.binds (ps := ["self", "number"]) fun _ _ _ _ _ _ us hl => match us, hl with | [_, _], _ => rfl
  have Kf_Ref_init : Mk K cRef a_Ref_init := ⟨mkRef, af_Ref_init, if_Ref_init, kcRef⟩
  have Ff_Ref_eq := fun_mk (st := s_Ref_eq) lf_Ref_eq cf_Ref_eq kf_Ref_eq
  have bf_Ref_eq := Ff_Ref_eq.binds (ps := ["self", "other"]) fun _ _ _ _ _ _ us hl => match us, hl with | [_, _], _ => rfl
  have Mf_Ref_eq : Meth K cRef "__eq__" a_Ref_eq := ⟨af_Ref_eq, if_Ref_eq, kf_Ref_eq⟩
  have Ff_Parts_init := fun_mk (st := s_Parts_init) lf_Parts_init cf_Parts_init kf_Parts_init
  have bf_Parts_init := Ff_Parts_init.binds (ps := ["self", "held"]) fun _ _ _ _ _ _ us hl => match us, hl with | [_, _], _ => rfl
  have Kf_Parts_init : Mk K cParts a_Parts_init := ⟨mkParts, af_Parts_init, if_Parts_init, kcParts⟩
  have Ff_Table_init := fun_mk (st := s_Table_init) lf_Table_init cf_Table_init kf_Table_init
  have bf_Table_init := Ff_Table_init.binds (ps := ["self"]) fun _ _ _ _ _ _ us hl => match us, hl with | [_], _ => rfl
  have Kf_Table_init : Mk K cTable a_Table_init := ⟨mkTable, af_Table_init, if_Table_init, kcTable⟩
  have Ff_Table_has := fun_mk (st := s_Table_has) lf_Table_has cf_Table_has kf_Table_has
  have bf_Table_has := Ff_Table_has.binds (ps := ["self", "key"]) fun _ _ _ _ _ _ us hl => match us, hl with | [_, _], _ => rfl
  have Mf_Table_has : Meth K cTable "has" a_Table_has := ⟨af_Table_has, if_Table_has, kf_Table_has⟩
  have Ff_Table_value_of := fun_mk (st := s_Table_value_of) lf_Table_value_of cf_Table_value_of kf_Table_value_of
  have bf_Table_value_of := Ff_Table_value_of.binds (ps := ["self", "key"]) fun _ _ _ _ _ _ us hl => match us, hl with | [_, _], _ => rfl
  have Mf_Table_value_of : Meth K cTable "value_of" a_Table_value_of := ⟨af_Table_value_of, if_Table_value_of, kf_Table_value_of⟩
  have Ff_Table_put := fun_mk (st := s_Table_put) lf_Table_put cf_Table_put kf_Table_put
  have bf_Table_put := Ff_Table_put.binds (ps := ["self", "key", "value"]) fun _ _ _ _ _ _ us hl => match us, hl with | [_, _, _], _ => rfl
  have Mf_Table_put : Meth K cTable "put" a_Table_put := ⟨af_Table_put, if_Table_put, kf_Table_put⟩
  have Ff_Table_take_out := fun_mk (st := s_Table_take_out) lf_Table_take_out cf_Table_take_out kf_Table_take_out
  have bf_Table_take_out := Ff_Table_take_out.binds (ps := ["self", "key"]) fun _ _ _ _ _ _ us hl => match us, hl with | [_, _], _ => rfl
  have Mf_Table_take_out : Meth K cTable "take_out" a_Table_take_out := ⟨af_Table_take_out, if_Table_take_out, kf_Table_take_out⟩
  have Ff_Table_pairs := fun_mk (st := s_Table_pairs) lf_Table_pairs cf_Table_pairs kf_Table_pairs
  have bf_Table_pairs := Ff_Table_pairs.binds (ps := ["self"]) fun _ _ _ _ _ _ us hl => match us, hl with | [_], _ => rfl
  have Mf_Table_pairs : Meth K cTable "pairs" a_Table_pairs := ⟨af_Table_pairs, if_Table_pairs, kf_Table_pairs⟩
  have Ff_Table_many := fun_mk (st := s_Table_many) lf_Table_many cf_Table_many kf_Table_many
  have bf_Table_many := Ff_Table_many.binds (ps := ["self"]) fun _ _ _ _ _ _ us hl => match us, hl with | [_], _ => rfl
  have Pf_Table_many : PropOf K cTable "many" p_Table_many a_Table_many := ⟨af_Table_many, pgtf_Table_many, ptkf_Table_many, _, prcf_Table_many⟩
  have Ff_Instance_init := fun_mk (st := s_Instance_init) lf_Instance_init cf_Instance_init kf_Instance_init
  have bf_Instance_init := Ff_Instance_init.binds (ps := ["self", "owner"]) fun _ _ _ _ _ _ us hl => match us, hl with | [_, _], _ => rfl
  have Kf_Instance_init : Mk K cInstance a_Instance_init := ⟨mkInstance, af_Instance_init, if_Instance_init, kcInstance⟩
  have Ff_Kin_init := fun_mk (st := s_Kin_init) lf_Kin_init cf_Kin_init kf_Kin_init
  have bf_Kin_init := Ff_Kin_init.binds (ps := ["self", "name", "parent"]) fun _ _ _ _ _ _ us hl => match us, hl with | [_, _, _], _ => rfl
  have Kf_Kin_init : Mk K cKin a_Kin_init := ⟨mkKin, af_Kin_init, if_Kin_init, kcKin⟩
  have Ff_Form_init := fun_mk (st := s_Form_init) lf_Form_init cf_Form_init kf_Form_init
  have bf_Form_init := Ff_Form_init.binds (ps := ["self", "store", "most"]) fun _ _ _ _ _ _ us hl => match us, hl with | [_, _, _], _ => rfl
  have Kf_Form_init : Mk K cForm a_Form_init := ⟨mkForm, af_Form_init, if_Form_init, kcForm⟩
  have Ff_Form_add := fun_mk (st := s_Form_add) lf_Form_add cf_Form_add kf_Form_add
  have bf_Form_add := Ff_Form_add.binds (ps := ["self", "text"]) fun _ _ _ _ _ _ us hl => match us, hl with | [_, _], _ => rfl
  have Mf_Form_add : Meth K cForm "add" a_Form_add := ⟨af_Form_add, if_Form_add, kf_Form_add⟩
  have Ff_Form_is_enough := fun_mk (st := s_Form_is_enough) lf_Form_is_enough cf_Form_is_enough kf_Form_is_enough
  have bf_Form_is_enough := Ff_Form_is_enough.binds (ps := ["self"]) fun _ _ _ _ _ _ us hl => match us, hl with | [_], _ => rfl
  have Mf_Form_is_enough : Meth K cForm "is_enough" a_Form_is_enough := ⟨af_Form_is_enough, if_Form_is_enough, kf_Form_is_enough⟩
  have Ff_Store_init := fun_mk (st := s_Store_init) lf_Store_init cf_Store_init kf_Store_init
  have bf_Store_init := Ff_Store_init.binds (ps := ["self", "lines"]) fun _ _ _ _ _ _ us hl => match us, hl with | [_, _], _ => rfl
  have Kf_Store_init : Mk K cStore a_Store_init := ⟨mkStore, af_Store_init, if_Store_init, kcStore⟩
  have Ff_Store_make := fun_mk (st := s_Store_make) lf_Store_make cf_Store_make kf_Store_make
  have bf_Store_make := Ff_Store_make.binds (ps := ["self", "thing"]) fun _ _ _ _ _ _ us hl => match us, hl with | [_, _], _ => rfl
  have Mf_Store_make : Meth K cStore "make" a_Store_make := ⟨af_Store_make, if_Store_make, kf_Store_make⟩
  have Ff_Store_at := fun_mk (st := s_Store_at) lf_Store_at cf_Store_at kf_Store_at
  have bf_Store_at := Ff_Store_at.binds (ps := ["self", "ref"]) fun _ _ _ _ _ _ us hl => match us, hl with | [_, _], _ => rfl
  have Mf_Store_at : Meth K cStore "at" a_Store_at := ⟨af_Store_at, if_Store_at, kf_Store_at⟩
  have ciMOST_HELD : ∃ t, mg "MOST_HELD" = some (.int 1000 t) := ⟨_, PySem.W.mg_of X G qMOST_HELD⟩
  have ciDOUBTFUL_BITS : ∃ t, mg "DOUBTFUL_BITS" = some (.int 997 t) := ⟨_, PySem.W.mg_of X G qDOUBTFUL_BITS⟩
  have ciMOST_AROUND : ∃ t, mg "MOST_AROUND" = some (.int 10 t) := ⟨_, PySem.W.mg_of X G qMOST_AROUND⟩
  obtain ⟨L, eL0, eL1, eL2, eL3, eL4, eL5, eL6, eL7, eL8, eL9, eL10⟩ : ∃ L : Lib l.prog K mg ⟨cRef, cParts, cTable, cInstance, cKin, cForm, cStore, cLivequillError, cScriptError⟩, L.push.f = a_push ∧ L.insert.f = a_insert ∧ L.take_last.f = a_take_last ∧ L.take_out_lists.f = a_take_out_lists ∧ L.length_lists.f = a_length_lists ∧ L.part_between_lists.f = a_part_between_lists ∧ L.contains_lists.f = a_contains_lists ∧ L.find_lists.f = a_find_lists ∧ L.count.f = a_count ∧ L.turn_around_lists.f = a_turn_around_lists ∧ L.copy_lists.f = a_copy_lists := ⟨⟨PySem.W.mg_none_of X G zrange, PySem.W.mg_none_of X G zlen, PySem.W.mg_none_of X G zint, PySem.W.mg_none_of X G zstr, PySem.W.mg_none_of X G zbool, PySem.W.mg_none_of X G zisinstance, PySem.W.mg_none_of X G zlist, PySem.W.mg_none_of X G zabs, PySem.W.mg_none_of X G zmin, PySem.W.mg_none_of X G zmax, PySem.W.mg_none_of X G zenumerate, PySem.W.mg_none_of X G zzip, PySem.W.mg_none_of X G zsorted, PySem.W.mg_none_of X G zsum, ⟨KlRef, PySem.W.mg_of X G uRef, tyRef⟩, nRef_number, ⟨KlParts, PySem.W.mg_of X G uParts, tyParts⟩, nParts_held, ⟨KlTable, PySem.W.mg_of X G uTable, tyTable⟩, nTable__entries, ⟨KlInstance, PySem.W.mg_of X G uInstance, tyInstance⟩, nInstance_owner, nInstance_named, ⟨KlKin, PySem.W.mg_of X G uKin, tyKin⟩, nKin_name, nKin_parent, nKin_methods, ⟨KlForm, PySem.W.mg_of X G uForm, tyForm⟩, nForm_store, nForm_most, nForm_pieces, nForm_size, nForm_around, ⟨KlStore, PySem.W.mg_of X G uStore, tyStore⟩, nStore_things, nStore_output, nStore_lines, nStore_taken, ⟨PySem.W.mg_of X G uLivequillError⟩, ⟨_, _, TScriptError, fun _ _ => ok_SE liScriptError ciScriptError TScriptError UScriptError, bScriptError, PySem.W.mg_of X G uScriptError, ecScriptError⟩, klScriptErrorLivequillError, k_Ref_Parts, k_Ref_Table, k_Ref_Instance, k_Ref_Kin, k_Ref_bool, k_Ref_int, k_Ref_str, k_Ref_list, k_Parts_Ref, k_Parts_Table, k_Parts_Instance, k_Parts_Kin, k_Parts_bool, k_Parts_int, k_Parts_str, k_Parts_list, k_Table_Ref, k_Table_Parts, k_Table_Instance, k_Table_Kin, k_Table_bool, k_Table_int, k_Table_str, k_Table_list, k_Instance_Ref, k_Instance_Parts, k_Instance_Table, k_Instance_Kin, k_Instance_bool, k_Instance_int, k_Instance_str, k_Instance_list, k_Kin_Ref, k_Kin_Parts, k_Kin_Table, k_Kin_Instance, k_Kin_bool, k_Kin_int, k_Kin_str, k_Kin_list, k_Form_Ref, k_Form_Parts, k_Form_Table, k_Form_Instance, k_Form_Kin, k_Form_bool, k_Form_int, k_Form_str, k_Form_list, k_Store_Ref, k_Store_Parts, k_Store_Table, k_Store_Instance, k_Store_Kin, k_Store_bool, k_Store_int, k_Store_str, k_Store_list, k_NoneType_Ref, k_NoneType_Parts, k_NoneType_Table, k_NoneType_Instance, k_NoneType_Kin, k_bool_Ref, k_bool_Parts, k_bool_Table, k_bool_Instance, k_bool_Kin, k_int_Ref, k_int_Parts, k_int_Table, k_int_Instance, k_int_Kin, k_str_Ref, k_str_Parts, k_str_Table, k_str_Instance, k_str_Kin, k_tuple_Ref, k_tuple_Parts, k_tuple_Table, k_tuple_Instance, k_tuple_Kin, k_list_Ref, k_list_Parts, k_list_Table, k_list_Instance, k_list_Kin, nf_Ref_NoneType, su_Ref_NoneType, nf_Ref_int, su_Ref_int, nf_Ref_str, su_Ref_str, nf_Ref_tuple, su_Ref_tuple, nf_Ref_list, su_Ref_list, nf_Ref_Parts, nf_Ref_Table, nf_Ref_Instance, nf_Ref_Kin, nf_Ref_Form, nf_Ref_Store, ciMOST_HELD, ciDOUBTFUL_BITS, ciMOST_AROUND, ⟨_, _, Ff_tagged, bf_tagged, glf_tagged⟩, ⟨_, _, Ff_kind_of, bf_kind_of, glf_kind_of⟩, ⟨_, _, Ff_kind_of_thing, bf_kind_of_thing, glf_kind_of_thing⟩, ⟨_, _, Ff_equal, bf_equal, glf_equal⟩, ⟨_, _, Ff_is_key, bf_is_key, glf_is_key⟩, ⟨_, _, Ff_check_size, bf_check_size, glf_check_size⟩, ⟨_, _, Ff_is_bounded, bf_is_bounded, glf_is_bounded⟩, ⟨_, _, Ff_checked_integer, bf_checked_integer, glf_checked_integer⟩, ⟨_, _, Ff_check_place, bf_check_place, glf_check_place⟩, ⟨_, _, Ff_check_gap, bf_check_gap, glf_check_gap⟩, ⟨_, _, Ff_check_gaps, bf_check_gaps, glf_check_gaps⟩, ⟨_, _, Ff_check_count, bf_check_count, glf_check_count⟩, ⟨_, _, Ff_check_arguments, bf_check_arguments, glf_check_arguments⟩, ⟨_, _, Ff_check_kind, bf_check_kind, glf_check_kind⟩, ⟨_, _, Ff_check_alike, bf_check_alike, glf_check_alike⟩, ⟨_, _, Ff_refuse_field, bf_refuse_field, glf_refuse_field⟩, ⟨_, _, Ff_get_item, bf_get_item, glf_get_item⟩, ⟨_, _, Ff_value_at, bf_value_at, glf_value_at⟩, ⟨_, _, Ff_set_item, bf_set_item, glf_set_item⟩, ⟨_, _, Ff_refuse_index, bf_refuse_index, glf_refuse_index⟩, ⟨_, _, Ff_check_key, bf_check_key, glf_check_key⟩, ⟨_, _, Ff_put_entry, bf_put_entry, glf_put_entry⟩, ⟨_, _, Ff_make_list, bf_make_list, glf_make_list⟩, ⟨_, _, Ff_make_map, bf_make_map, glf_make_map⟩, ⟨_, _, Ff_quoted, bf_quoted, glf_quoted⟩, ⟨_, _, Ff_write_value, bf_write_value, glf_write_value⟩, ⟨_, _, Ff_text_of, bf_text_of, glf_text_of⟩, ⟨_, _, Ff_write, bf_write, glf_write⟩, ⟨_, _, Ff_write_around, bf_write_around, glf_write_around⟩, ⟨_, _, Ff_write_held, bf_write_held, glf_write_held⟩, ⟨_, _, Ff_held_by, bf_held_by, glf_held_by⟩, ⟨_, _, Ff_plain_form, bf_plain_form, glf_plain_form⟩, ⟨_, _, Ff_push, bf_push, glf_push⟩, ⟨_, _, Ff_insert, bf_insert, glf_insert⟩, ⟨_, _, Ff_take_last, bf_take_last, glf_take_last⟩, ⟨_, _, Ff_join, bf_join, glf_join⟩, ⟨_, _, Ff_joined, bf_joined, glf_joined⟩, ⟨_, _, Ff_count, bf_count, glf_count⟩, ⟨_, _, Ff_sort, bf_sort, glf_sort⟩, ⟨_, _, Ff_extend, bf_extend, glf_extend⟩, ⟨_, _, Ff_total, bf_total, glf_total⟩, ⟨_, _, Ff_pair_up, bf_pair_up, glf_pair_up⟩, ⟨_, _, Ff_make_pairs, bf_make_pairs, glf_make_pairs⟩, ⟨_, _, Ff_has, bf_has, glf_has⟩, ⟨_, _, Ff_keys_of, bf_keys_of, glf_keys_of⟩, ⟨_, _, Ff_values_of, bf_values_of, glf_values_of⟩, ⟨_, _, Ff_entries, bf_entries, glf_entries⟩, ⟨_, _, Ff_get, bf_get, glf_get⟩, ⟨_, _, Ff_merge, bf_merge, glf_merge⟩, ⟨_, _, Ff_clear, bf_clear, glf_clear⟩, ⟨_, _, Ff_in_capitals, bf_in_capitals, glf_in_capitals⟩, ⟨_, _, Ff_in_small_letters, bf_in_small_letters, glf_in_small_letters⟩, ⟨_, _, Ff_split, bf_split, glf_split⟩, ⟨_, _, Ff_check_not_empty, bf_check_not_empty, glf_check_not_empty⟩, ⟨_, _, Ff_replace, bf_replace, glf_replace⟩, ⟨_, _, Ff_trim, bf_trim, glf_trim⟩, ⟨_, _, Ff_begins_with, bf_begins_with, glf_begins_with⟩, ⟨_, _, Ff_ends_with, bf_ends_with, glf_ends_with⟩, ⟨_, _, Ff_repeat_, bf_repeat_, glf_repeat_⟩, ⟨_, _, Ff_lines, bf_lines, glf_lines⟩, ⟨_, _, Ff_code, bf_code, glf_code⟩, ⟨_, _, Ff_call_method, bf_call_method, glf_call_method⟩, ⟨_, _, Ff_method_for, bf_method_for, glf_method_for⟩, ⟨_, _, Ff_law_cell, bf_law_cell, glf_law_cell⟩, ⟨_, _, Ff_law_begin, bf_law_begin, glf_law_begin⟩, ⟨_, _, Ff_law_draw, bf_law_draw, glf_law_draw⟩, ⟨_, _, Ff_law_pick, bf_law_pick, glf_law_pick⟩, ⟨_, _, Ff_law_value, bf_law_value, glf_law_value⟩, ⟨_, _, Ff_law_same, bf_law_same, glf_law_same⟩, ⟨_, _, Ff_law_rows, bf_law_rows, glf_law_rows⟩, ⟨_, _, Ff_law_call, bf_law_call, glf_law_call⟩, ⟨_, _, Ff_law_item, bf_law_item, glf_law_item⟩, ⟨_, _, Ff_law_places, bf_law_places, glf_law_places⟩, ⟨_, _, Ff_law_change, bf_law_change, glf_law_change⟩, ⟨_, _, Ff_law_found, bf_law_found, glf_law_found⟩, ⟨_, _, Ff_law_equal, bf_law_equal, glf_law_equal⟩, ⟨_, _, Ff_law_new, bf_law_new, glf_law_new⟩, ⟨_, _, Ff_law_step, bf_law_step, glf_law_step⟩, ⟨_, _, Ff_law_elements, bf_law_elements, glf_law_elements⟩, ⟨_, _, Ff_law_wrong, bf_law_wrong, glf_law_wrong⟩, ⟨_, _, Ff_take_out_lists, bf_take_out_lists, glf_take_out_lists⟩, ⟨_, _, Ff_length_lists, bf_length_lists, glf_length_lists⟩, ⟨_, _, Ff_part_between_lists, bf_part_between_lists, glf_part_between_lists⟩, ⟨_, _, Ff_contains_lists, bf_contains_lists, glf_contains_lists⟩, ⟨_, _, Ff_find_lists, bf_find_lists, glf_find_lists⟩, ⟨_, _, Ff_turn_around_lists, bf_turn_around_lists, glf_turn_around_lists⟩, ⟨_, _, Ff_copy_lists, bf_copy_lists, glf_copy_lists⟩, ⟨_, _, Ff_take_out_maps, bf_take_out_maps, glf_take_out_maps⟩, ⟨_, _, Ff_copy_maps, bf_copy_maps, glf_copy_maps⟩, ⟨_, _, Ff_length_maps, bf_length_maps, glf_length_maps⟩, ⟨_, _, Ff_length_texts, bf_length_texts, glf_length_texts⟩, ⟨_, _, Ff_part_between_texts, bf_part_between_texts, glf_part_between_texts⟩, ⟨_, _, Ff_find_texts, bf_find_texts, glf_find_texts⟩, ⟨_, _, Ff_contains_texts, bf_contains_texts, glf_contains_texts⟩, ⟨_, _, Ff_turn_around_texts, bf_turn_around_texts, glf_turn_around_texts⟩, ⟨_, _, Ff_Ref_init, bf_Ref_init, Kf_Ref_init⟩, ⟨_, _, Ff_Ref_eq, bf_Ref_eq, ⟨af_Ref_eq, if_Ref_eq⟩⟩, ⟨_, _, Ff_Parts_init, bf_Parts_init, Kf_Parts_init⟩, ⟨_, _, Ff_Table_init, bf_Table_init, Kf_Table_init⟩, ⟨_, _, Ff_Table_has, bf_Table_has, Mf_Table_has⟩, ⟨_, _, Ff_Table_value_of, bf_Table_value_of, Mf_Table_value_of⟩, ⟨_, _, Ff_Table_put, bf_Table_put, Mf_Table_put⟩, ⟨_, _, Ff_Table_take_out, bf_Table_take_out, Mf_Table_take_out⟩, ⟨_, _, Ff_Table_pairs, bf_Table_pairs, Mf_Table_pairs⟩, ⟨_, _, _, Ff_Table_many, bf_Table_many, Pf_Table_many⟩, ⟨_, _, Ff_Instance_init, bf_Instance_init, Kf_Instance_init⟩, ⟨_, _, Ff_Kin_init, bf_Kin_init, Kf_Kin_init⟩, ⟨_, _, Ff_Form_init, bf_Form_init, Kf_Form_init⟩, ⟨_, _, Ff_Form_add, bf_Form_add, Mf_Form_add⟩, ⟨_, _, Ff_Form_is_enough, bf_Form_is_enough, Mf_Form_is_enough⟩, ⟨_, _, Ff_Store_init, bf_Store_init, Kf_Store_init⟩, ⟨_, _, Ff_Store_make, bf_Store_make, Mf_Store_make⟩, ⟨_, _, Ff_Store_at, bf_Store_at, Mf_Store_at⟩⟩, rfl, rfl, rfl, rfl, rfl, rfl, rfl, rfl, rfl, rfl, rfl⟩
  have D : Fd w L := ⟨aLM, _, _, ⟨ldLM, kdLM, lowLM⟩, PySem.W.mg_of X G udLM, fun c => match c with
    | .push _ => ⟨tA0, qA0, nd0, fun H => by show SqT K H tA0 [.ref L.push.f, .ref qA0]; rw [eL0]; exact .inr ⟨_, _, _, lt0, rfl, rfl, st0, vt0⟩, fun H => .inr ⟨_, _, _, lq0, rfl, rfl, sq0, vq0⟩⟩
    | .insert _ _ => ⟨tA1, qA1, nd1, fun H => by show SqT K H tA1 [.ref L.insert.f, .ref qA1]; rw [eL1]; exact .inr ⟨_, _, _, lt1, rfl, rfl, st1, vt1⟩, fun H => .inr ⟨_, _, _, lq1, rfl, rfl, sq1, vq1⟩⟩
    | .pop => ⟨tA2, qA2, nd2, fun H => by show SqT K H tA2 [.ref L.take_last.f, .ref qA2]; rw [eL2]; exact .inr ⟨_, _, _, lt2, rfl, rfl, st2, vt2⟩, fun H => .inr ⟨_, _, _, lq2, rfl, rfl, sq2, vq2⟩⟩
    | .remove _ => ⟨tA3, qA3, nd3, fun H => by show SqT K H tA3 [.ref L.take_out_lists.f, .ref qA3]; rw [eL3]; exact .inr ⟨_, _, _, lt3, rfl, rfl, st3, vt3⟩, fun H => .inr ⟨_, _, _, lq3, rfl, rfl, sq3, vq3⟩⟩
    | .length => ⟨tA4, qA4, nd4, fun H => by show SqT K H tA4 [.ref L.length_lists.f, .ref qA4]; rw [eL4]; exact .inr ⟨_, _, _, lt4, rfl, rfl, st4, vt4⟩, fun H => .inr ⟨_, _, _, lq4, rfl, rfl, sq4, vq4⟩⟩
    | .slice _ _ => ⟨tA5, qA5, nd5, fun H => by show SqT K H tA5 [.ref L.part_between_lists.f, .ref qA5]; rw [eL5]; exact .inr ⟨_, _, _, lt5, rfl, rfl, st5, vt5⟩, fun H => .inr ⟨_, _, _, lq5, rfl, rfl, sq5, vq5⟩⟩
    | .contains _ => ⟨tA6, qA6, nd6, fun H => by show SqT K H tA6 [.ref L.contains_lists.f, .ref qA6]; rw [eL6]; exact .inr ⟨_, _, _, lt6, rfl, rfl, st6, vt6⟩, fun H => .inr ⟨_, _, _, lq6, rfl, rfl, sq6, vq6⟩⟩
    | .find _ => ⟨tA7, qA7, nd7, fun H => by show SqT K H tA7 [.ref L.find_lists.f, .ref qA7]; rw [eL7]; exact .inr ⟨_, _, _, lt7, rfl, rfl, st7, vt7⟩, fun H => .inr ⟨_, _, _, lq7, rfl, rfl, sq7, vq7⟩⟩
    | .count _ => ⟨tA8, qA8, nd8, fun H => by show SqT K H tA8 [.ref L.count.f, .ref qA8]; rw [eL8]; exact .inr ⟨_, _, _, lt8, rfl, rfl, st8, vt8⟩, fun H => .inr ⟨_, _, _, lq8, rfl, rfl, sq8, vq8⟩⟩
    | .reverse => ⟨tA9, qA9, nd9, fun H => by show SqT K H tA9 [.ref L.turn_around_lists.f, .ref qA9]; rw [eL9]; exact .inr ⟨_, _, _, lt9, rfl, rfl, st9, vt9⟩, fun H => .inr ⟨_, _, _, lq9, rfl, rfl, sq9, vq9⟩⟩
    | .copy => ⟨tA10, qA10, nd10, fun H => by show SqT K H tA10 [.ref L.copy_lists.f, .ref qA10]; rw [eL10]; exact .inr ⟨_, _, _, lt10, rfl, rfl, st10, vt10⟩, fun H => .inr ⟨_, _, _, lq10, rfl, rfl, sq10, vq10⟩⟩, fun b => match b with
    | .insert => ⟨tA1, _, qA1, nd1, fun H => .inr ⟨_, _, _, lt1, rfl, rfl, st1, vt1⟩, fun H => .inr ⟨_, _, _, lq1, rfl, rfl, sq1, vq1⟩⟩
    | .remove => ⟨tA3, _, qA3, nd3, fun H => .inr ⟨_, _, _, lt3, rfl, rfl, st3, vt3⟩, fun H => .inr ⟨_, _, _, lq3, rfl, rfl, sq3, vq3⟩⟩
    | .slice => ⟨tA5, _, qA5, nd5, fun H => .inr ⟨_, _, _, lt5, rfl, rfl, st5, vt5⟩, fun H => .inr ⟨_, _, _, lq5, rfl, rfl, sq5, vq5⟩⟩
    | .extend => ⟨tA11, _, qA11, nd11, fun H => .inr ⟨_, _, _, lt11, rfl, rfl, st11, vt11⟩, fun H => .inr ⟨_, _, _, lq11, rfl, rfl, sq11, vq11⟩⟩, fun z hz => by
      simp only [missN, List.mem_cons, List.not_mem_nil, or_false] at hz
      rcases hz with rfl | rfl | rfl | rfl | rfl
      · exact miss0
      · exact miss1
      · exact miss2
      · exact miss3
      · exact miss4⟩
  exact ⟨PySem.W.fnOf "law" "law" (defArgs s_law) (defBody s_law) (defScope s_law) .none kVlaw dclaw pmlaw anlaw cdlaw ctlaw, fun s v => .of_eq rfl, fun base _ _ => ok_law Flaw L D⟩
end My
namespace PySem.W.Fast
def tw90343872475197607 : Type := PySem.Params
theorem te90343872475197607 : PySem.Params = tw90343872475197607 := rfl
end PySem.W.Fast
open PySem PySem.W PyProof.Rows
set_option maxRecDepth 100000 in
set_option maxHeartbeats 0 in
theorem PySem.Challenge.cw_livequill_k20_lists_by_methods_holds : PySem.Challenge.rw_livequill_k20_lists_by_methods.Holds := by
  w_on; o_law; k_head; (case hw => w_witness2)
  k_fill
  refine L2.walk_of (l := PySem.Challenge.rw_livequill_k20_lists_by_methods) (n := 63) (k := 12) (x := "script") (CX := fun _ => L2.CX0) (sp := fun w => My.spLaw _) rfl (by decide) rfl ⟨rfl, by decide, by decide⟩ (fun w h Y => PySem.W.kIn_of Y) ?F (fun _ _ a ns hl _ hS => ⟨a, ns, rfl, hS, hl, fun _ => rfl⟩) (fun _ _ _ _ _ h => h)
  case F =>
    intro w mg fa h KX G hmg
    refine' My.all_mk KX G hmg ?uRef ?mkRef ?kcRef ?pgRef ?hdRef ?poRef ?saRef ?nRef_number ?hnTy ?htTy ?haRef ?hmRef ?uParts ?mkParts ?kcParts ?pgParts ?hdParts ?poParts ?saParts ?nParts_held ?haParts ?hmParts ?uTable ?mkTable ?kcTable ?pgTable ?hdTable ?poTable ?saTable ?nTable__entries ?haTable ?hmTable ?uInstance ?mkInstance ?kcInstance ?pgInstance ?hdInstance ?poInstance ?saInstance ?nInstance_owner ?nInstance_named ?haInstance ?hmInstance ?uKin ?mkKin ?kcKin ?pgKin ?hdKin ?poKin ?saKin ?nKin_name ?nKin_parent ?nKin_methods ?haKin ?hmKin ?uForm ?mkForm ?kcForm ?pgForm ?hdForm ?poForm ?saForm ?nForm_store ?nForm_most ?nForm_pieces ?nForm_size ?nForm_around ?haForm ?hmForm ?uStore ?mkStore ?kcStore ?pgStore ?hdStore ?poStore ?saStore ?nStore_things ?nStore_output ?nStore_lines ?nStore_taken ?haStore ?hmStore ?uLivequillError ?uScriptError ?xScriptError ?saScriptError ?exScriptError ?tpScriptError ?kpScriptError ?n1ScriptError ?n2ScriptError ?iScriptError ?tiScriptError ?gaScriptError ?ggScriptError ?hdScriptError ?ssScriptError ?liScriptError ?ciScriptError ?coScriptError ?cvScriptError ?fiScriptError ?ceScriptError ?toSup ?suSup ?opSup ?mrScriptError ?ksScriptError ?vaScriptError ?haScriptError ?hmScriptError ?klScriptErrorLivequillError ?af_tagged ?lf_tagged ?cf_tagged ?kf_tagged ?af_kind_of ?lf_kind_of ?cf_kind_of ?kf_kind_of ?af_kind_of_thing ?lf_kind_of_thing ?cf_kind_of_thing ?kf_kind_of_thing ?af_equal ?lf_equal ?cf_equal ?kf_equal ?af_is_key ?lf_is_key ?cf_is_key ?kf_is_key ?af_check_size ?lf_check_size ?cf_check_size ?kf_check_size ?af_is_bounded ?lf_is_bounded ?cf_is_bounded ?kf_is_bounded ?af_checked_integer ?lf_checked_integer ?cf_checked_integer ?kf_checked_integer ?af_check_place ?lf_check_place ?cf_check_place ?kf_check_place ?af_check_gap ?lf_check_gap ?cf_check_gap ?kf_check_gap ?af_check_gaps ?lf_check_gaps ?cf_check_gaps ?kf_check_gaps ?af_check_count ?lf_check_count ?cf_check_count ?kf_check_count ?af_check_arguments ?lf_check_arguments ?cf_check_arguments ?kf_check_arguments ?af_check_kind ?lf_check_kind ?cf_check_kind ?kf_check_kind ?af_check_alike ?lf_check_alike ?cf_check_alike ?kf_check_alike ?af_refuse_field ?lf_refuse_field ?cf_refuse_field ?kf_refuse_field ?af_get_item ?lf_get_item ?cf_get_item ?kf_get_item ?af_value_at ?lf_value_at ?cf_value_at ?kf_value_at ?af_set_item ?lf_set_item ?cf_set_item ?kf_set_item ?af_refuse_index ?lf_refuse_index ?cf_refuse_index ?kf_refuse_index ?af_check_key ?lf_check_key ?cf_check_key ?kf_check_key ?af_put_entry ?lf_put_entry ?cf_put_entry ?kf_put_entry ?af_make_list ?lf_make_list ?cf_make_list ?kf_make_list ?af_make_map ?lf_make_map ?cf_make_map ?kf_make_map ?af_quoted ?lf_quoted ?cf_quoted ?kf_quoted ?af_write_value ?lf_write_value ?cf_write_value ?kf_write_value ?af_text_of ?lf_text_of ?cf_text_of ?kf_text_of ?af_write ?lf_write ?cf_write ?kf_write ?af_write_around ?lf_write_around ?cf_write_around ?kf_write_around ?af_write_held ?lf_write_held ?cf_write_held ?kf_write_held ?af_held_by ?lf_held_by ?cf_held_by ?kf_held_by ?af_plain_form ?lf_plain_form ?cf_plain_form ?kf_plain_form ?af_push ?lf_push ?cf_push ?kf_push ?af_insert ?lf_insert ?cf_insert ?kf_insert ?af_take_last ?lf_take_last ?cf_take_last ?kf_take_last ?af_join ?lf_join ?cf_join ?kf_join ?af_joined ?lf_joined ?cf_joined ?kf_joined ?af_count ?lf_count ?cf_count ?kf_count ?af_sort ?lf_sort ?cf_sort ?kf_sort ?af_extend ?lf_extend ?cf_extend ?kf_extend ?af_total ?lf_total ?cf_total ?kf_total ?af_pair_up ?lf_pair_up ?cf_pair_up ?kf_pair_up ?af_make_pairs ?lf_make_pairs ?cf_make_pairs ?kf_make_pairs ?af_has ?lf_has ?cf_has ?kf_has ?af_keys_of ?lf_keys_of ?cf_keys_of ?kf_keys_of ?af_values_of ?lf_values_of ?cf_values_of ?kf_values_of ?af_entries ?lf_entries ?cf_entries ?kf_entries ?af_get ?lf_get ?cf_get ?kf_get ?af_merge ?lf_merge ?cf_merge ?kf_merge ?af_clear ?lf_clear ?cf_clear ?kf_clear ?af_in_capitals ?lf_in_capitals ?cf_in_capitals ?kf_in_capitals ?af_in_small_letters ?lf_in_small_letters ?cf_in_small_letters ?kf_in_small_letters ?af_split ?lf_split ?cf_split ?kf_split ?af_check_not_empty ?lf_check_not_empty ?cf_check_not_empty ?kf_check_not_empty ?af_replace ?lf_replace ?cf_replace ?kf_replace ?af_trim ?lf_trim ?cf_trim ?kf_trim ?af_begins_with ?lf_begins_with ?cf_begins_with ?kf_begins_with ?af_ends_with ?lf_ends_with ?cf_ends_with ?kf_ends_with ?af_repeat_ ?lf_repeat_ ?cf_repeat_ ?kf_repeat_ ?af_lines ?lf_lines ?cf_lines ?kf_lines ?af_code ?lf_code ?cf_code ?kf_code ?af_call_method ?lf_call_method ?cf_call_method ?kf_call_method ?af_method_for ?lf_method_for ?cf_method_for ?kf_method_for ?af_law_cell ?lf_law_cell ?cf_law_cell ?kf_law_cell ?af_law_begin ?lf_law_begin ?cf_law_begin ?kf_law_begin ?af_law_draw ?lf_law_draw ?cf_law_draw ?kf_law_draw ?af_law_pick ?lf_law_pick ?cf_law_pick ?kf_law_pick ?af_law_value ?lf_law_value ?cf_law_value ?kf_law_value ?af_law_same ?lf_law_same ?cf_law_same ?kf_law_same ?af_law_rows ?lf_law_rows ?cf_law_rows ?kf_law_rows ?af_law_call ?lf_law_call ?cf_law_call ?kf_law_call ?af_law_item ?lf_law_item ?cf_law_item ?kf_law_item ?af_law_places ?lf_law_places ?cf_law_places ?kf_law_places ?af_law_change ?lf_law_change ?cf_law_change ?kf_law_change ?af_law_found ?lf_law_found ?cf_law_found ?kf_law_found ?af_law_equal ?lf_law_equal ?cf_law_equal ?kf_law_equal ?af_law_new ?lf_law_new ?cf_law_new ?kf_law_new ?af_law_step ?lf_law_step ?cf_law_step ?kf_law_step ?af_law_elements ?lf_law_elements ?cf_law_elements ?kf_law_elements ?af_law_wrong ?lf_law_wrong ?cf_law_wrong ?kf_law_wrong ?alaw ?llaw ?claw ?klaw ?af_take_out_lists ?lf_take_out_lists ?cf_take_out_lists ?kf_take_out_lists ?af_length_lists ?lf_length_lists ?cf_length_lists ?kf_length_lists ?af_part_between_lists ?lf_part_between_lists ?cf_part_between_lists ?kf_part_between_lists ?af_contains_lists ?lf_contains_lists ?cf_contains_lists ?kf_contains_lists ?af_find_lists ?lf_find_lists ?cf_find_lists ?kf_find_lists ?af_turn_around_lists ?lf_turn_around_lists ?cf_turn_around_lists ?kf_turn_around_lists ?af_copy_lists ?lf_copy_lists ?cf_copy_lists ?kf_copy_lists ?af_take_out_maps ?lf_take_out_maps ?cf_take_out_maps ?kf_take_out_maps ?af_copy_maps ?lf_copy_maps ?cf_copy_maps ?kf_copy_maps ?af_length_maps ?lf_length_maps ?cf_length_maps ?kf_length_maps ?af_length_texts ?lf_length_texts ?cf_length_texts ?kf_length_texts ?af_part_between_texts ?lf_part_between_texts ?cf_part_between_texts ?kf_part_between_texts ?af_find_texts ?lf_find_texts ?cf_find_texts ?kf_find_texts ?af_contains_texts ?lf_contains_texts ?cf_contains_texts ?kf_contains_texts ?af_turn_around_texts ?lf_turn_around_texts ?cf_turn_around_texts ?kf_turn_around_texts ?af_Ref_init ?if_Ref_init ?lf_Ref_init ?cf_Ref_init ?kf_Ref_init ?af_Ref_eq ?if_Ref_eq ?lf_Ref_eq ?cf_Ref_eq ?kf_Ref_eq ?af_Parts_init ?if_Parts_init ?lf_Parts_init ?cf_Parts_init ?kf_Parts_init ?af_Table_init ?if_Table_init ?lf_Table_init ?cf_Table_init ?kf_Table_init ?af_Table_has ?if_Table_has ?lf_Table_has ?cf_Table_has ?kf_Table_has ?af_Table_value_of ?if_Table_value_of ?lf_Table_value_of ?cf_Table_value_of ?kf_Table_value_of ?af_Table_put ?if_Table_put ?lf_Table_put ?cf_Table_put ?kf_Table_put ?af_Table_take_out ?if_Table_take_out ?lf_Table_take_out ?cf_Table_take_out ?kf_Table_take_out ?af_Table_pairs ?if_Table_pairs ?lf_Table_pairs ?cf_Table_pairs ?kf_Table_pairs ?af_Table_many ?pgtf_Table_many ?ptkf_Table_many ?prcf_Table_many ?lf_Table_many ?cf_Table_many ?kf_Table_many ?af_Instance_init ?if_Instance_init ?lf_Instance_init ?cf_Instance_init ?kf_Instance_init ?af_Kin_init ?if_Kin_init ?lf_Kin_init ?cf_Kin_init ?kf_Kin_init ?af_Form_init ?if_Form_init ?lf_Form_init ?cf_Form_init ?kf_Form_init ?af_Form_add ?if_Form_add ?lf_Form_add ?cf_Form_add ?kf_Form_add ?af_Form_is_enough ?if_Form_is_enough ?lf_Form_is_enough ?cf_Form_is_enough ?kf_Form_is_enough ?af_Store_init ?if_Store_init ?lf_Store_init ?cf_Store_init ?kf_Store_init ?af_Store_make ?if_Store_make ?lf_Store_make ?cf_Store_make ?kf_Store_make ?af_Store_at ?if_Store_at ?lf_Store_at ?cf_Store_at ?kf_Store_at ?qMOST_HELD ?qDOUBTFUL_BITS ?qMOST_AROUND ?k_Ref_Parts ?k_Ref_Table ?k_Ref_Instance ?k_Ref_Kin ?k_Ref_bool ?k_Ref_int ?k_Ref_str ?k_Ref_list ?k_Parts_Ref ?k_Parts_Table ?k_Parts_Instance ?k_Parts_Kin ?k_Parts_bool ?k_Parts_int ?k_Parts_str ?k_Parts_list ?k_Table_Ref ?k_Table_Parts ?k_Table_Instance ?k_Table_Kin ?k_Table_bool ?k_Table_int ?k_Table_str ?k_Table_list ?k_Instance_Ref ?k_Instance_Parts ?k_Instance_Table ?k_Instance_Kin ?k_Instance_bool ?k_Instance_int ?k_Instance_str ?k_Instance_list ?k_Kin_Ref ?k_Kin_Parts ?k_Kin_Table ?k_Kin_Instance ?k_Kin_bool ?k_Kin_int ?k_Kin_str ?k_Kin_list ?k_Form_Ref ?k_Form_Parts ?k_Form_Table ?k_Form_Instance ?k_Form_Kin ?k_Form_bool ?k_Form_int ?k_Form_str ?k_Form_list ?k_Store_Ref ?k_Store_Parts ?k_Store_Table ?k_Store_Instance ?k_Store_Kin ?k_Store_bool ?k_Store_int ?k_Store_str ?k_Store_list ?k_NoneType_Ref ?k_NoneType_Parts ?k_NoneType_Table ?k_NoneType_Instance ?k_NoneType_Kin ?k_bool_Ref ?k_bool_Parts ?k_bool_Table ?k_bool_Instance ?k_bool_Kin ?k_int_Ref ?k_int_Parts ?k_int_Table ?k_int_Instance ?k_int_Kin ?k_str_Ref ?k_str_Parts ?k_str_Table ?k_str_Instance ?k_str_Kin ?k_tuple_Ref ?k_tuple_Parts ?k_tuple_Table ?k_tuple_Instance ?k_tuple_Kin ?k_list_Ref ?k_list_Parts ?k_list_Table ?k_list_Instance ?k_list_Kin ?nf_Ref_NoneType ?su_Ref_NoneType ?nf_Ref_int ?su_Ref_int ?nf_Ref_str ?su_Ref_str ?nf_Ref_tuple ?su_Ref_tuple ?nf_Ref_list ?su_Ref_list ?nf_Ref_Parts ?nf_Ref_Table ?nf_Ref_Instance ?nf_Ref_Kin ?nf_Ref_Form ?nf_Ref_Store ?zrange ?zlen ?zint ?zstr ?zbool ?zisinstance ?zlist ?zabs ?zmin ?zmax ?zenumerate ?zzip ?zsorted ?zsum ?udLM ?ldLM ?kdLM ?lowLM ?miss0 ?miss1 ?miss2 ?miss3 ?miss4 ?nd0 ?lt0 ?vt0 ?st0 ?lq0 ?vq0 ?sq0 ?nd1 ?lt1 ?vt1 ?st1 ?lq1 ?vq1 ?sq1 ?nd2 ?lt2 ?vt2 ?st2 ?lq2 ?vq2 ?sq2 ?nd3 ?lt3 ?vt3 ?st3 ?lq3 ?vq3 ?sq3 ?nd4 ?lt4 ?vt4 ?st4 ?lq4 ?vq4 ?sq4 ?nd5 ?lt5 ?vt5 ?st5 ?lq5 ?vq5 ?sq5 ?nd6 ?lt6 ?vt6 ?st6 ?lq6 ?vq6 ?sq6 ?nd7 ?lt7 ?vt7 ?st7 ?lq7 ?vq7 ?sq7 ?nd8 ?lt8 ?vt8 ?st8 ?lq8 ?vq8 ?sq8 ?nd9 ?lt9 ?vt9 ?st9 ?lq9 ?vq9 ?sq9 ?nd10 ?lt10 ?vt10 ?st10 ?lq10 ?vq10 ?sq10 ?nd11 ?lt11 ?vt11 ?st11 ?lq11 ?vq11 ?sq11
    (case uRef => k_is)
    (case mkRef => k_is)
    (case kcRef => k_is)
    (case pgRef => k_is)
    (case hdRef => k_is)
    (case poRef => k_is)
    (case saRef => k_is)
    (case nRef_number => k_is)
    (case hnTy => k_is)
    (case htTy => k_is)
    (case haRef => k_is)
    (case hmRef => k_is)
    (case uParts => k_is)
    (case mkParts => k_is)
    (case kcParts => k_is)
    (case pgParts => k_is)
    (case hdParts => k_is)
    (case poParts => k_is)
    (case saParts => k_is)
    (case nParts_held => k_is)
    (case haParts => k_is)
    (case hmParts => k_is)
    (case uTable => k_is)
    (case mkTable => k_is)
    (case kcTable => k_is)
    (case pgTable => k_is)
    (case hdTable => k_is)
    (case poTable => k_is)
    (case saTable => k_is)
    (case nTable__entries => k_is)
    (case haTable => k_is)
    (case hmTable => k_is)
    (case uInstance => k_is)
    (case mkInstance => k_is)
    (case kcInstance => k_is)
    (case pgInstance => k_is)
    (case hdInstance => k_is)
    (case poInstance => k_is)
    (case saInstance => k_is)
    (case nInstance_owner => k_is)
    (case nInstance_named => k_is)
    (case haInstance => k_is)
    (case hmInstance => k_is)
    (case uKin => k_is)
    (case mkKin => k_is)
    (case kcKin => k_is)
    (case pgKin => k_is)
    (case hdKin => k_is)
    (case poKin => k_is)
    (case saKin => k_is)
    (case nKin_name => k_is)
    (case nKin_parent => k_is)
    (case nKin_methods => k_is)
    (case haKin => k_is)
    (case hmKin => k_is)
    (case uForm => k_is)
    (case mkForm => k_is)
    (case kcForm => k_is)
    (case pgForm => k_is)
    (case hdForm => k_is)
    (case poForm => k_is)
    (case saForm => k_is)
    (case nForm_store => k_is)
    (case nForm_most => k_is)
    (case nForm_pieces => k_is)
    (case nForm_size => k_is)
    (case nForm_around => k_is)
    (case haForm => k_is)
    (case hmForm => k_is)
    (case uStore => k_is)
    (case mkStore => k_is)
    (case kcStore => k_is)
    (case pgStore => k_is)
    (case hdStore => k_is)
    (case poStore => k_is)
    (case saStore => k_is)
    (case nStore_things => k_is)
    (case nStore_output => k_is)
    (case nStore_lines => k_is)
    (case nStore_taken => k_is)
    (case haStore => k_is)
    (case hmStore => k_is)
    (case uLivequillError => k_is)
    (case uScriptError => k_is)
    (case xScriptError => k_is)
    (case saScriptError => k_is)
    (case exScriptError => k_is)
    (case tpScriptError => k_is)
    (case kpScriptError => k_is)
    (case n1ScriptError => k_is)
    (case n2ScriptError => k_is)
    (case iScriptError => k_is)
    (case tiScriptError => k_is)
    (case gaScriptError => k_is)
    (case ggScriptError => k_is)
    (case hdScriptError => k_is)
    (case ssScriptError => first | rfl | k_is)
    (case liScriptError => k_is)
    (case ciScriptError => k_is)
    (case coScriptError => k_is)
    (case cvScriptError => rfl)
    (case fiScriptError => first | rfl | decide +kernel)
    (case ceScriptError => k_is)
    (case toSup => first | rfl | decide +kernel)
    (case suSup => k_is)
    (case opSup => k_is)
    (case mrScriptError => k_is)
    (case ksScriptError => ks_is)
    (case vaScriptError => k_is)
    (case haScriptError => k_is)
    (case hmScriptError => k_is)
    (case klScriptErrorLivequillError => kit_is)
    (case af_tagged => k_is)
    (case lf_tagged => k_is)
    (case cf_tagged => k_is)
    (case kf_tagged => k_is)
    (case af_kind_of => k_is)
    (case lf_kind_of => k_is)
    (case cf_kind_of => k_is)
    (case kf_kind_of => k_is)
    (case af_kind_of_thing => k_is)
    (case lf_kind_of_thing => k_is)
    (case cf_kind_of_thing => k_is)
    (case kf_kind_of_thing => k_is)
    (case af_equal => k_is)
    (case lf_equal => k_is)
    (case cf_equal => k_is)
    (case kf_equal => k_is)
    (case af_is_key => k_is)
    (case lf_is_key => k_is)
    (case cf_is_key => k_is)
    (case kf_is_key => k_is)
    (case af_check_size => k_is)
    (case lf_check_size => k_is)
    (case cf_check_size => k_is)
    (case kf_check_size => k_is)
    (case af_is_bounded => k_is)
    (case lf_is_bounded => k_is)
    (case cf_is_bounded => k_is)
    (case kf_is_bounded => k_is)
    (case af_checked_integer => k_is)
    (case lf_checked_integer => k_is)
    (case cf_checked_integer => k_is)
    (case kf_checked_integer => k_is)
    (case af_check_place => k_is)
    (case lf_check_place => k_is)
    (case cf_check_place => k_is)
    (case kf_check_place => k_is)
    (case af_check_gap => k_is)
    (case lf_check_gap => k_is)
    (case cf_check_gap => k_is)
    (case kf_check_gap => k_is)
    (case af_check_gaps => k_is)
    (case lf_check_gaps => k_is)
    (case cf_check_gaps => k_is)
    (case kf_check_gaps => k_is)
    (case af_check_count => k_is)
    (case lf_check_count => k_is)
    (case cf_check_count => k_is)
    (case kf_check_count => k_is)
    (case af_check_arguments => k_is)
    (case lf_check_arguments => k_is)
    (case cf_check_arguments => k_is)
    (case kf_check_arguments => k_is)
    (case af_check_kind => k_is)
    (case lf_check_kind => k_is)
    (case cf_check_kind => k_is)
    (case kf_check_kind => k_is)
    (case af_check_alike => k_is)
    (case lf_check_alike => k_is)
    (case cf_check_alike => k_is)
    (case kf_check_alike => k_is)
    (case af_refuse_field => k_is)
    (case lf_refuse_field => k_is)
    (case cf_refuse_field => k_is)
    (case kf_refuse_field => k_is)
    (case af_get_item => k_is)
    (case lf_get_item => k_is)
    (case cf_get_item => k_is)
    (case kf_get_item => k_is)
    (case af_value_at => k_is)
    (case lf_value_at => k_is)
    (case cf_value_at => k_is)
    (case kf_value_at => k_is)
    (case af_set_item => k_is)
    (case lf_set_item => k_is)
    (case cf_set_item => k_is)
    (case kf_set_item => k_is)
    (case af_refuse_index => k_is)
    (case lf_refuse_index => k_is)
    (case cf_refuse_index => k_is)
    (case kf_refuse_index => k_is)
    (case af_check_key => k_is)
    (case lf_check_key => k_is)
    (case cf_check_key => k_is)
    (case kf_check_key => k_is)
    (case af_put_entry => k_is)
    (case lf_put_entry => k_is)
    (case cf_put_entry => k_is)
    (case kf_put_entry => k_is)
    (case af_make_list => k_is)
    (case lf_make_list => k_is)
    (case cf_make_list => k_is)
    (case kf_make_list => k_is)
    (case af_make_map => k_is)
    (case lf_make_map => k_is)
    (case cf_make_map => k_is)
    (case kf_make_map => k_is)
    (case af_quoted => k_is)
    (case lf_quoted => k_is)
    (case cf_quoted => k_is)
    (case kf_quoted => k_is)
    (case af_write_value => k_is)
    (case lf_write_value => k_is)
    (case cf_write_value => k_is)
    (case kf_write_value => k_is)
    (case af_text_of => k_is)
    (case lf_text_of => k_is)
    (case cf_text_of => k_is)
    (case kf_text_of => k_is)
    (case af_write => k_is)
    (case lf_write => k_is)
    (case cf_write => k_is)
    (case kf_write => k_is)
    (case af_write_around => k_is)
    (case lf_write_around => k_is)
    (case cf_write_around => k_is)
    (case kf_write_around => k_is)
    (case af_write_held => k_is)
    (case lf_write_held => k_is)
    (case cf_write_held => k_is)
    (case kf_write_held => k_is)
    (case af_held_by => k_is)
    (case lf_held_by => k_is)
    (case cf_held_by => k_is)
    (case kf_held_by => k_is)
    (case af_plain_form => k_is)
    (case lf_plain_form => k_is)
    (case cf_plain_form => k_is)
    (case kf_plain_form => k_is)
    (case af_push => k_is)
    (case lf_push => k_is)
    (case cf_push => k_is)
    (case kf_push => k_is)
    (case af_insert => k_is)
    (case lf_insert => k_is)
    (case cf_insert => k_is)
    (case kf_insert => k_is)
    (case af_take_last => k_is)
    (case lf_take_last => k_is)
    (case cf_take_last => k_is)
    (case kf_take_last => k_is)
    (case af_join => k_is)
    (case lf_join => k_is)
    (case cf_join => k_is)
    (case kf_join => k_is)
    (case af_joined => k_is)
    (case lf_joined => k_is)
    (case cf_joined => k_is)
    (case kf_joined => k_is)
    (case af_count => k_is)
    (case lf_count => k_is)
    (case cf_count => k_is)
    (case kf_count => k_is)
    (case af_sort => k_is)
    (case lf_sort => k_is)
    (case cf_sort => k_is)
    (case kf_sort => k_is)
    (case af_extend => k_is)
    (case lf_extend => k_is)
    (case cf_extend => k_is)
    (case kf_extend => k_is)
    (case af_total => k_is)
    (case lf_total => k_is)
    (case cf_total => k_is)
    (case kf_total => k_is)
    (case af_pair_up => k_is)
    (case lf_pair_up => k_is)
    (case cf_pair_up => k_is)
    (case kf_pair_up => k_is)
    (case af_make_pairs => k_is)
    (case lf_make_pairs => k_is)
    (case cf_make_pairs => k_is)
    (case kf_make_pairs => k_is)
    (case af_has => k_is)
    (case lf_has => k_is)
    (case cf_has => k_is)
    (case kf_has => k_is)
    (case af_keys_of => k_is)
    (case lf_keys_of => k_is)
    (case cf_keys_of => k_is)
    (case kf_keys_of => k_is)
    (case af_values_of => k_is)
    (case lf_values_of => k_is)
    (case cf_values_of => k_is)
    (case kf_values_of => k_is)
    (case af_entries => k_is)
    (case lf_entries => k_is)
    (case cf_entries => k_is)
    (case kf_entries => k_is)
    (case af_get => k_is)
    (case lf_get => k_is)
    (case cf_get => k_is)
    (case kf_get => k_is)
    (case af_merge => k_is)
    (case lf_merge => k_is)
    (case cf_merge => k_is)
    (case kf_merge => k_is)
    (case af_clear => k_is)
    (case lf_clear => k_is)
    (case cf_clear => k_is)
    (case kf_clear => k_is)
    (case af_in_capitals => k_is)
    (case lf_in_capitals => k_is)
    (case cf_in_capitals => k_is)
    (case kf_in_capitals => k_is)
    (case af_in_small_letters => k_is)
    (case lf_in_small_letters => k_is)
    (case cf_in_small_letters => k_is)
    (case kf_in_small_letters => k_is)
    (case af_split => k_is)
    (case lf_split => k_is)
    (case cf_split => k_is)
    (case kf_split => k_is)
    (case af_check_not_empty => k_is)
    (case lf_check_not_empty => k_is)
    (case cf_check_not_empty => k_is)
    (case kf_check_not_empty => k_is)
    (case af_replace => k_is)
    (case lf_replace => k_is)
    (case cf_replace => k_is)
    (case kf_replace => k_is)
    (case af_trim => k_is)
    (case lf_trim => k_is)
    (case cf_trim => k_is)
    (case kf_trim => k_is)
    (case af_begins_with => k_is)
    (case lf_begins_with => k_is)
    (case cf_begins_with => k_is)
    (case kf_begins_with => k_is)
    (case af_ends_with => k_is)
    (case lf_ends_with => k_is)
    (case cf_ends_with => k_is)
    (case kf_ends_with => k_is)
    (case af_repeat_ => k_is)
    (case lf_repeat_ => k_is)
    (case cf_repeat_ => k_is)
    (case kf_repeat_ => k_is)
    (case af_lines => k_is)
    (case lf_lines => k_is)
    (case cf_lines => k_is)
    (case kf_lines => k_is)
    (case af_code => k_is)
    (case lf_code => k_is)
    (case cf_code => k_is)
    (case kf_code => k_is)
    (case af_call_method => k_is)
    (case lf_call_method => k_is)
    (case cf_call_method => k_is)
    (case kf_call_method => k_is)
    (case af_method_for => k_is)
    (case lf_method_for => k_is)
    (case cf_method_for => k_is)
    (case kf_method_for => k_is)
    (case af_law_cell => k_is)
    (case lf_law_cell => k_is)
    (case cf_law_cell => k_is)
    (case kf_law_cell => k_is)
    (case af_law_begin => k_is)
    (case lf_law_begin => k_is)
    (case cf_law_begin => k_is)
    (case kf_law_begin => k_is)
    (case af_law_draw => k_is)
    (case lf_law_draw => k_is)
    (case cf_law_draw => k_is)
    (case kf_law_draw => k_is)
    (case af_law_pick => k_is)
    (case lf_law_pick => k_is)
    (case cf_law_pick => k_is)
    (case kf_law_pick => k_is)
    (case af_law_value => k_is)
    (case lf_law_value => k_is)
    (case cf_law_value => k_is)
    (case kf_law_value => k_is)
    (case af_law_same => k_is)
    (case lf_law_same => k_is)
    (case cf_law_same => k_is)
    (case kf_law_same => k_is)
    (case af_law_rows => k_is)
    (case lf_law_rows => k_is)
    (case cf_law_rows => k_is)
    (case kf_law_rows => k_is)
    (case af_law_call => k_is)
    (case lf_law_call => k_is)
    (case cf_law_call => k_is)
    (case kf_law_call => k_is)
    (case af_law_item => k_is)
    (case lf_law_item => k_is)
    (case cf_law_item => k_is)
    (case kf_law_item => k_is)
    (case af_law_places => k_is)
    (case lf_law_places => k_is)
    (case cf_law_places => k_is)
    (case kf_law_places => k_is)
    (case af_law_change => k_is)
    (case lf_law_change => k_is)
    (case cf_law_change => k_is)
    (case kf_law_change => k_is)
    (case af_law_found => k_is)
    (case lf_law_found => k_is)
    (case cf_law_found => k_is)
    (case kf_law_found => k_is)
    (case af_law_equal => k_is)
    (case lf_law_equal => k_is)
    (case cf_law_equal => k_is)
    (case kf_law_equal => k_is)
    (case af_law_new => k_is)
    (case lf_law_new => k_is)
    (case cf_law_new => k_is)
    (case kf_law_new => k_is)
    (case af_law_step => k_is)
    (case lf_law_step => k_is)
    (case cf_law_step => k_is)
    (case kf_law_step => k_is)
    (case af_law_elements => k_is)
    (case lf_law_elements => k_is)
    (case cf_law_elements => k_is)
    (case kf_law_elements => k_is)
    (case af_law_wrong => k_is)
    (case lf_law_wrong => k_is)
    (case cf_law_wrong => k_is)
    (case kf_law_wrong => k_is)
    (case alaw => k_is)
    (case llaw => k_is)
    (case claw => k_is)
    (case klaw => k_is)
    (case af_take_out_lists => k_is)
    (case lf_take_out_lists => k_is)
    (case cf_take_out_lists => k_is)
    (case kf_take_out_lists => k_is)
    (case af_length_lists => k_is)
    (case lf_length_lists => k_is)
    (case cf_length_lists => k_is)
    (case kf_length_lists => k_is)
    (case af_part_between_lists => k_is)
    (case lf_part_between_lists => k_is)
    (case cf_part_between_lists => k_is)
    (case kf_part_between_lists => k_is)
    (case af_contains_lists => k_is)
    (case lf_contains_lists => k_is)
    (case cf_contains_lists => k_is)
    (case kf_contains_lists => k_is)
    (case af_find_lists => k_is)
    (case lf_find_lists => k_is)
    (case cf_find_lists => k_is)
    (case kf_find_lists => k_is)
    (case af_turn_around_lists => k_is)
    (case lf_turn_around_lists => k_is)
    (case cf_turn_around_lists => k_is)
    (case kf_turn_around_lists => k_is)
    (case af_copy_lists => k_is)
    (case lf_copy_lists => k_is)
    (case cf_copy_lists => k_is)
    (case kf_copy_lists => k_is)
    (case af_take_out_maps => k_is)
    (case lf_take_out_maps => k_is)
    (case cf_take_out_maps => k_is)
    (case kf_take_out_maps => k_is)
    (case af_copy_maps => k_is)
    (case lf_copy_maps => k_is)
    (case cf_copy_maps => k_is)
    (case kf_copy_maps => k_is)
    (case af_length_maps => k_is)
    (case lf_length_maps => k_is)
    (case cf_length_maps => k_is)
    (case kf_length_maps => k_is)
    (case af_length_texts => k_is)
    (case lf_length_texts => k_is)
    (case cf_length_texts => k_is)
    (case kf_length_texts => k_is)
    (case af_part_between_texts => k_is)
    (case lf_part_between_texts => k_is)
    (case cf_part_between_texts => k_is)
    (case kf_part_between_texts => k_is)
    (case af_find_texts => k_is)
    (case lf_find_texts => k_is)
    (case cf_find_texts => k_is)
    (case kf_find_texts => k_is)
    (case af_contains_texts => k_is)
    (case lf_contains_texts => k_is)
    (case cf_contains_texts => k_is)
    (case kf_contains_texts => k_is)
    (case af_turn_around_texts => k_is)
    (case lf_turn_around_texts => k_is)
    (case cf_turn_around_texts => k_is)
    (case kf_turn_around_texts => k_is)
    (case af_Ref_init => k_is)
    (case if_Ref_init => k_is)
    (case lf_Ref_init => k_is)
    (case cf_Ref_init => k_is)
    (case kf_Ref_init => k_is)
    (case af_Ref_eq => k_is)
    (case if_Ref_eq => k_is)
    (case lf_Ref_eq => k_is)
    (case cf_Ref_eq => k_is)
    (case kf_Ref_eq => k_is)
    (case af_Parts_init => k_is)
    (case if_Parts_init => k_is)
    (case lf_Parts_init => k_is)
    (case cf_Parts_init => k_is)
    (case kf_Parts_init => k_is)
    (case af_Table_init => k_is)
    (case if_Table_init => k_is)
    (case lf_Table_init => k_is)
    (case cf_Table_init => k_is)
    (case kf_Table_init => k_is)
    (case af_Table_has => k_is)
    (case if_Table_has => k_is)
    (case lf_Table_has => k_is)
    (case cf_Table_has => k_is)
    (case kf_Table_has => k_is)
    (case af_Table_value_of => k_is)
    (case if_Table_value_of => k_is)
    (case lf_Table_value_of => k_is)
    (case cf_Table_value_of => k_is)
    (case kf_Table_value_of => k_is)
    (case af_Table_put => k_is)
    (case if_Table_put => k_is)
    (case lf_Table_put => k_is)
    (case cf_Table_put => k_is)
    (case kf_Table_put => k_is)
    (case af_Table_take_out => k_is)
    (case if_Table_take_out => k_is)
    (case lf_Table_take_out => k_is)
    (case cf_Table_take_out => k_is)
    (case kf_Table_take_out => k_is)
    (case af_Table_pairs => k_is)
    (case if_Table_pairs => k_is)
    (case lf_Table_pairs => k_is)
    (case cf_Table_pairs => k_is)
    (case kf_Table_pairs => k_is)
    (case af_Table_many => k_is)
    (case pgtf_Table_many => k_is)
    (case ptkf_Table_many => k_is)
    (case prcf_Table_many => k_is)
    (case lf_Table_many => k_is)
    (case cf_Table_many => k_is)
    (case kf_Table_many => k_is)
    (case af_Instance_init => k_is)
    (case if_Instance_init => k_is)
    (case lf_Instance_init => k_is)
    (case cf_Instance_init => k_is)
    (case kf_Instance_init => k_is)
    (case af_Kin_init => k_is)
    (case if_Kin_init => k_is)
    (case lf_Kin_init => k_is)
    (case cf_Kin_init => k_is)
    (case kf_Kin_init => k_is)
    (case af_Form_init => k_is)
    (case if_Form_init => k_is)
    (case lf_Form_init => k_is)
    (case cf_Form_init => k_is)
    (case kf_Form_init => k_is)
    (case af_Form_add => k_is)
    (case if_Form_add => k_is)
    (case lf_Form_add => k_is)
    (case cf_Form_add => k_is)
    (case kf_Form_add => k_is)
    (case af_Form_is_enough => k_is)
    (case if_Form_is_enough => k_is)
    (case lf_Form_is_enough => k_is)
    (case cf_Form_is_enough => k_is)
    (case kf_Form_is_enough => k_is)
    (case af_Store_init => k_is)
    (case if_Store_init => k_is)
    (case lf_Store_init => k_is)
    (case cf_Store_init => k_is)
    (case kf_Store_init => k_is)
    (case af_Store_make => k_is)
    (case if_Store_make => k_is)
    (case lf_Store_make => k_is)
    (case cf_Store_make => k_is)
    (case kf_Store_make => k_is)
    (case af_Store_at => k_is)
    (case if_Store_at => k_is)
    (case lf_Store_at => k_is)
    (case cf_Store_at => k_is)
    (case kf_Store_at => k_is)
    (case qMOST_HELD => k_is)
    (case qDOUBTFUL_BITS => k_is)
    (case qMOST_AROUND => k_is)
    (case k_Ref_Parts => kit_is)
    (case k_Ref_Table => kit_is)
    (case k_Ref_Instance => kit_is)
    (case k_Ref_Kin => kit_is)
    (case k_Ref_bool => kit_is)
    (case k_Ref_int => kit_is)
    (case k_Ref_str => kit_is)
    (case k_Ref_list => kit_is)
    (case k_Parts_Ref => kit_is)
    (case k_Parts_Table => kit_is)
    (case k_Parts_Instance => kit_is)
    (case k_Parts_Kin => kit_is)
    (case k_Parts_bool => kit_is)
    (case k_Parts_int => kit_is)
    (case k_Parts_str => kit_is)
    (case k_Parts_list => kit_is)
    (case k_Table_Ref => kit_is)
    (case k_Table_Parts => kit_is)
    (case k_Table_Instance => kit_is)
    (case k_Table_Kin => kit_is)
    (case k_Table_bool => kit_is)
    (case k_Table_int => kit_is)
    (case k_Table_str => kit_is)
    (case k_Table_list => kit_is)
    (case k_Instance_Ref => kit_is)
    (case k_Instance_Parts => kit_is)
    (case k_Instance_Table => kit_is)
    (case k_Instance_Kin => kit_is)
    (case k_Instance_bool => kit_is)
    (case k_Instance_int => kit_is)
    (case k_Instance_str => kit_is)
    (case k_Instance_list => kit_is)
    (case k_Kin_Ref => kit_is)
    (case k_Kin_Parts => kit_is)
    (case k_Kin_Table => kit_is)
    (case k_Kin_Instance => kit_is)
    (case k_Kin_bool => kit_is)
    (case k_Kin_int => kit_is)
    (case k_Kin_str => kit_is)
    (case k_Kin_list => kit_is)
    (case k_Form_Ref => kit_is)
    (case k_Form_Parts => kit_is)
    (case k_Form_Table => kit_is)
    (case k_Form_Instance => kit_is)
    (case k_Form_Kin => kit_is)
    (case k_Form_bool => kit_is)
    (case k_Form_int => kit_is)
    (case k_Form_str => kit_is)
    (case k_Form_list => kit_is)
    (case k_Store_Ref => kit_is)
    (case k_Store_Parts => kit_is)
    (case k_Store_Table => kit_is)
    (case k_Store_Instance => kit_is)
    (case k_Store_Kin => kit_is)
    (case k_Store_bool => kit_is)
    (case k_Store_int => kit_is)
    (case k_Store_str => kit_is)
    (case k_Store_list => kit_is)
    (case k_NoneType_Ref => kit_is)
    (case k_NoneType_Parts => kit_is)
    (case k_NoneType_Table => kit_is)
    (case k_NoneType_Instance => kit_is)
    (case k_NoneType_Kin => kit_is)
    (case k_bool_Ref => kit_is)
    (case k_bool_Parts => kit_is)
    (case k_bool_Table => kit_is)
    (case k_bool_Instance => kit_is)
    (case k_bool_Kin => kit_is)
    (case k_int_Ref => kit_is)
    (case k_int_Parts => kit_is)
    (case k_int_Table => kit_is)
    (case k_int_Instance => kit_is)
    (case k_int_Kin => kit_is)
    (case k_str_Ref => kit_is)
    (case k_str_Parts => kit_is)
    (case k_str_Table => kit_is)
    (case k_str_Instance => kit_is)
    (case k_str_Kin => kit_is)
    (case k_tuple_Ref => kit_is)
    (case k_tuple_Parts => kit_is)
    (case k_tuple_Table => kit_is)
    (case k_tuple_Instance => kit_is)
    (case k_tuple_Kin => kit_is)
    (case k_list_Ref => kit_is)
    (case k_list_Parts => kit_is)
    (case k_list_Table => kit_is)
    (case k_list_Instance => kit_is)
    (case k_list_Kin => kit_is)
    (case nf_Ref_NoneType => k_is)
    (case su_Ref_NoneType => k_is)
    (case nf_Ref_int => k_is)
    (case su_Ref_int => k_is)
    (case nf_Ref_str => k_is)
    (case su_Ref_str => k_is)
    (case nf_Ref_tuple => k_is)
    (case su_Ref_tuple => k_is)
    (case nf_Ref_list => k_is)
    (case su_Ref_list => k_is)
    (case nf_Ref_Parts => k_is)
    (case nf_Ref_Table => k_is)
    (case nf_Ref_Instance => k_is)
    (case nf_Ref_Kin => k_is)
    (case nf_Ref_Form => k_is)
    (case nf_Ref_Store => k_is)
    (case zrange => k_is)
    (case zlen => k_is)
    (case zint => k_is)
    (case zstr => k_is)
    (case zbool => k_is)
    (case zisinstance => k_is)
    (case zlist => k_is)
    (case zabs => k_is)
    (case zmin => k_is)
    (case zmax => k_is)
    (case zenumerate => k_is)
    (case zzip => k_is)
    (case zsorted => k_is)
    (case zsum => k_is)
    (case udLM => k_is)
    (case ldLM => k_is)
    (case kdLM => repeat (first | exact trivial | refine ⟨⟨_, _, rfl, rfl⟩, ?_⟩))
    (case lowLM => first | rfl | decide +kernel)
    (case miss0 => k_is)
    (case miss1 => k_is)
    (case miss2 => k_is)
    (case miss3 => k_is)
    (case miss4 => k_is)
    (case nd0 => k_is)
    (case lt0 => k_is)
    (case vt0 => exact PySem.Paired.cons rfl (PySem.Paired.cons rfl PySem.Paired.nil))
    (case st0 => (rw [sizeLine_eq]; decide))
    (case lq0 => k_is)
    (case vq0 => repeat (first | exact PySem.Paired.nil | refine PySem.Paired.cons ⟨_, rfl⟩ ?_))
    (case sq0 => (rw [sizeLine_eq]; decide))
    (case nd1 => k_is)
    (case lt1 => k_is)
    (case vt1 => exact PySem.Paired.cons rfl (PySem.Paired.cons rfl PySem.Paired.nil))
    (case st1 => (rw [sizeLine_eq]; decide))
    (case lq1 => k_is)
    (case vq1 => repeat (first | exact PySem.Paired.nil | refine PySem.Paired.cons ⟨_, rfl⟩ ?_))
    (case sq1 => (rw [sizeLine_eq]; decide))
    (case nd2 => k_is)
    (case lt2 => k_is)
    (case vt2 => exact PySem.Paired.cons rfl (PySem.Paired.cons rfl PySem.Paired.nil))
    (case st2 => (rw [sizeLine_eq]; decide))
    (case lq2 => k_is)
    (case vq2 => repeat (first | exact PySem.Paired.nil | refine PySem.Paired.cons ⟨_, rfl⟩ ?_))
    (case sq2 => (rw [sizeLine_eq]; decide))
    (case nd3 => k_is)
    (case lt3 => k_is)
    (case vt3 => exact PySem.Paired.cons rfl (PySem.Paired.cons rfl PySem.Paired.nil))
    (case st3 => (rw [sizeLine_eq]; decide))
    (case lq3 => k_is)
    (case vq3 => repeat (first | exact PySem.Paired.nil | refine PySem.Paired.cons ⟨_, rfl⟩ ?_))
    (case sq3 => (rw [sizeLine_eq]; decide))
    (case nd4 => k_is)
    (case lt4 => k_is)
    (case vt4 => exact PySem.Paired.cons rfl (PySem.Paired.cons rfl PySem.Paired.nil))
    (case st4 => (rw [sizeLine_eq]; decide))
    (case lq4 => k_is)
    (case vq4 => repeat (first | exact PySem.Paired.nil | refine PySem.Paired.cons ⟨_, rfl⟩ ?_))
    (case sq4 => (rw [sizeLine_eq]; decide))
    (case nd5 => k_is)
    (case lt5 => k_is)
    (case vt5 => exact PySem.Paired.cons rfl (PySem.Paired.cons rfl PySem.Paired.nil))
    (case st5 => (rw [sizeLine_eq]; decide))
    (case lq5 => k_is)
    (case vq5 => repeat (first | exact PySem.Paired.nil | refine PySem.Paired.cons ⟨_, rfl⟩ ?_))
    (case sq5 => (rw [sizeLine_eq]; decide))
    (case nd6 => k_is)
    (case lt6 => k_is)
    (case vt6 => exact PySem.Paired.cons rfl (PySem.Paired.cons rfl PySem.Paired.nil))
    (case st6 => (rw [sizeLine_eq]; decide))
    (case lq6 => k_is)
    (case vq6 => repeat (first | exact PySem.Paired.nil | refine PySem.Paired.cons ⟨_, rfl⟩ ?_))
    (case sq6 => (rw [sizeLine_eq]; decide))
    (case nd7 => k_is)
    (case lt7 => k_is)
    (case vt7 => exact PySem.Paired.cons rfl (PySem.Paired.cons rfl PySem.Paired.nil))
    (case st7 => (rw [sizeLine_eq]; decide))
    (case lq7 => k_is)
    (case vq7 => repeat (first | exact PySem.Paired.nil | refine PySem.Paired.cons ⟨_, rfl⟩ ?_))
    (case sq7 => (rw [sizeLine_eq]; decide))
    (case nd8 => k_is)
    (case lt8 => k_is)
    (case vt8 => exact PySem.Paired.cons rfl (PySem.Paired.cons rfl PySem.Paired.nil))
    (case st8 => (rw [sizeLine_eq]; decide))
    (case lq8 => k_is)
    (case vq8 => repeat (first | exact PySem.Paired.nil | refine PySem.Paired.cons ⟨_, rfl⟩ ?_))
    (case sq8 => (rw [sizeLine_eq]; decide))
    (case nd9 => k_is)
    (case lt9 => k_is)
    (case vt9 => exact PySem.Paired.cons rfl (PySem.Paired.cons rfl PySem.Paired.nil))
    (case st9 => (rw [sizeLine_eq]; decide))
    (case lq9 => k_is)
    (case vq9 => repeat (first | exact PySem.Paired.nil | refine PySem.Paired.cons ⟨_, rfl⟩ ?_))
    (case sq9 => (rw [sizeLine_eq]; decide))
    (case nd10 => k_is)
    (case lt10 => k_is)
    (case vt10 => exact PySem.Paired.cons rfl (PySem.Paired.cons rfl PySem.Paired.nil))
    (case st10 => (rw [sizeLine_eq]; decide))
    (case lq10 => k_is)
    (case vq10 => repeat (first | exact PySem.Paired.nil | refine PySem.Paired.cons ⟨_, rfl⟩ ?_))
    (case sq10 => (rw [sizeLine_eq]; decide))
    (case nd11 => k_is)
    (case lt11 => k_is)
    (case vt11 => exact PySem.Paired.cons rfl (PySem.Paired.cons rfl PySem.Paired.nil))
    (case st11 => (rw [sizeLine_eq]; decide))
    (case lq11 => k_is)
    (case vq11 => repeat (first | exact PySem.Paired.nil | refine PySem.Paired.cons ⟨_, rfl⟩ ?_))
    (case sq11 => (rw [sizeLine_eq]; decide))
