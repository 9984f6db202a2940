import PyProof.Rows.All
import Wide.All
import OpenK.AllK
import Wide.FinOn
import HandS.ForMost
import HandS.ForExc
import HandS.StrMore
import HandS.IsInst
import HandS.Codes
import HandS.Gcd
import HandS.Zip
import HandS.Zip0
import KE.GoesZip
import KE.GoesMore
import HandS.Walk
import KE.KMathG
import HandS.Text
import HandS.Flow
import HandS.More
import HandS.Walk
import HandS.OwnEq
import HandS.Style
import PyProof.Raises
import KE.RegKIsAll
import KE.KSuper
import KE.KExcSuper
import HandS.ExcInit
import HandS.Nested
import HandS.FStr
import HandS.ExcField
import HandS.ExcIs
import HandS.Wide
import HandS.Replace
import KE.GoesEnum
import HandS.ReplaceDef
import HandS.ReplaceLit
import HandS.ReplaceList
import HandS.WideBits
import HandS.ExcCtx
import HandS.HotCalls
import HandS.Deep
import HandS.CallLocal
import HandS.CallSlots
import HandS.Star
import HandS.TupLen
import HandS.Property
import KE.KStar
import KE.KeyNested
import KE.KDictCopyH
import KE.KDictList
import PyProof.StrBlock2
import HandS.Conv
import KE.KDictWalk
import PyProof.DictValues
import PyProof.DictRoadsH
import PyProof.DictMoreH
import PyProof.Rows.TupTab
import PySem.Challenge.RW_livequill_k21_maps_by_methods
set_option Elab.async false
set_option linter.all false
set_option maxRecDepth 100000
namespace XS
open PySem PySem.W PySem.Calls PyProof.Rows L2 NdefX
/-! ### an own exception whose __init__ begins with super().__init__(e), over ValueError -/
/-- what the written part says: of the def at fI (its code object at cda, its cell at cc), of the class D in which it is written, and of the class C that is made -/
structure Sup (prog : Program) (K : Frag) (mg : Str → Option Value) (cda cc D C : Addr) : Prop where
  code : ∃ ccl cdd vs ccs file tf, K.lookup cda = some ⟨ccl, cdd, .fields vs, ccs⟩ ∧ vs[2]? = some (.str file tf) ∧ ((prog.main.file : Str) == file) = true
  cell : ∃ cl cld csl, K.lookup cc = some ⟨cl, cld, .cell (some (.ref D)), csl⟩
  top : (prog.main.scope.names.lookup ("super" : Str)).isSome = false
  sup : mg "super" = none
  cls : ∃ cdD, clsIn K D = some cdD
  sub : mroIn K C (.ref D) = some true
  opq : nsIn K cStatics "thirdparty.any" = some none
  ini : ks_superIn K C D "__init__" = some (some (.builtin "ValueError.__init__"))
  val : subIn K (.ref C) (.type "ValueError") = some true

theorem excInit_exo {cdC : Addr} {K : Frag} (T : OexC K cdC) {h : Heap} (X : K.In h) : ∃ nm q N bs bm sn sub ab col dd k0 k1 k2 k3 k5, h.get? cdC = some (excClassObj nm q cdC N bs bm true sn sub ab col dd k0 k1 k2 k3 k5 "ValueError.__new__") ∧ PySem.HandSPX.refsVE bm = true := by
  obtain ⟨nm, q, N, bs, bm, sn, sub, ab, col, dd, k0, k1, k2, k3, k5, hC, hbm⟩ := T.cls
  exact ⟨nm, q, N, bs, bm, sn, sub, ab, col, dd, k0, k1, k2, k3, k5, X _ _ hC, hbm⟩

section
variable {X : Cx} {pins : List (Addr × Obj)} {σ : L2.St} {H : Hp} {s : Shared} {x C : Addr} {A : Around} {E : Value → Shared → Prop}
/-- the method-wrapper called -/
theorem mw_call {u : Addr} {us : List Value} {Q : Value → Shared → Prop} (T : OexC X.K C) (I : Inv X pins σ H s) (e : H x = some (exo x C none)) (hu : s.heap.get? u = some (kxs_mw "ValueError.__init__" x)) (hl : us.length ≤ sizeLine)
    (h : ∀ s', Inv X pins σ H s' → Q .none s') : wpAny (model X.prog X.w) A (call (.ref u) us) Q E s := by
  obtain ⟨nm, q, N, bs, bm, sn, sub, ab, col, dd, k0, k1, k2, k3, k5, hC, hbm⟩ := excInit_exo T I.kIn
  obtain ⟨t1, ho⟩ := exo_at I.hok e
  obtain ⟨hp, g, d, t, os⟩ := s
  refine wpAny_call (codeAny_of_tree ?_)
  show wpAny _ A.in1 (callAny (.ref u) ⟨us, []⟩) _ _ _
  simp only [callAny]
  refine wpAny_bind (wpAny_load hu ?_)
  simp only [kxs_mw, show (Value.type "method-wrapper" == Value.type "method" || Value.type "method-wrapper" == Value.type "builtin_function_or_method" || Value.type "method-wrapper" == Value.type "method-wrapper") = true by decide, if_true]
  refine KFB.if_so (by decide) ?_
  refine wpAny_bind (check_bound_init F.excBase_ValueError.toExcCallFacts hC ho rfl ?_)
  refine wpAny_bind (wpAny_pure (wpAny_pure ?_))
  refine ⟨plainId_quiet F.excBase_ValueError.init.plain _, codeAny_builtin F.excBase_ValueError.initEntry ?_⟩
  refine exc_init_tree (cls := .ref C) (t0 := t1) (dv := none) (c2 := .none) (c3 := .none) (b4 := .bool false) ho hl fun h' k hx _ => ?_
  have J := I.write (t' := t) (x := x) (e := x) (o := exo x C none) (by rw [e]; exact True.intro) (.inl rfl) k ⟨_, hx⟩ (exo_ok hx)
  have eu : upd H x (exo x C none) = H := by
    funext b
    by_cases hb : b = x
    · rw [hb, upd_same, e]
    · rw [upd_ne hb]
  rw [eu] at J
  exact h _ J
end
theorem mw_with {M : Model} {A : Around} {E : Value → Shared → Prop} {s : Shared} {u x : Addr} {i : String} {pos : Pos} {env : Env} {e : Expr} {rest : List Expr} {Q : Value → Shared → Prop}
    (he : starEach (e :: rest) env = (false, eval e env) :: starEach rest env) (hplain : (backTo pos (starEach rest env)).any (·.1) = false)
    (h : wpAny M A (spliced (backTo pos (starEach (e :: rest) env))) (fun vs s₁ => KxsAt i u x s₁.heap ∧ wpAny M A (call (.ref u) vs) Q E s₁) E s) :
    wpAny M A (callWith pos (.ref u) [] (backTo pos (starEach (e :: rest) env)) []) Q E s := by
  rw [he] at h ⊢
  refine kxs_callWith (i := i) (x := x) (by show (false || (backTo pos (starEach rest env)).any (·.1)) = false; rw [hplain]; rfl) ?_
  exact evalArgs_plain h
/-- the def's own words -/
structure SupFn where
  qual : Str
  params : Arguments
  rest : List Stmt
  scope : Scope
  cda : Addr
  cc : Addr
  arg : Expr
  p0 : Pos
  p1 : Pos
  p2 : Pos
  p3 : Pos
  p4 : Pos
abbrev SupFn.body (F : SupFn) : List Stmt := .Expr (.Call (.Attribute (.Call (.Name "super" F.p0) [] [] F.p1) "__init__" F.p2) [F.arg] [] F.p3) F.p4 :: F.rest
abbrev SupFn.nf (F : SupFn) : NF := ⟨"__init__", F.qual, F.params, F.body, F.scope, [("__class__", F.cc)], F.cda⟩
def SupFn.Ev (F : SupFn) : Prop := ∀ env : Env, (∃ pl : Sem Bool, eval (.Call (.Attribute (.Call (.Name "super" F.p0) [] [] F.p1) "__init__" F.p2) [F.arg] [] F.p3) env = (do
      let ov ← attributeBase (.Call (.Name "super" F.p0) [] [] F.p1) "__init__" env (eval (.Call (.Name "super" F.p0) [] [] F.p1) env)
      standAt F.p2.atName
      let (f, first) ← holding [ov] (getMethod ov "__init__" pl)
      callWith F.p3 f first (backTo F.p3 (starEach [F.arg] env)) [])) ∧ starEach [F.arg] env = (false, eval F.arg env) :: starEach [] env ∧ swapsWith (.Call (.Attribute (.Call (.Name "super" F.p0) [] [] F.p1) "__init__" F.p2) [F.arg] [] F.p3) none F.p4.line env = pure false
theorem fn_super {CX : CXT} {P : Program} {w : World} {K : Frag} {mg : Str → Option Value} {base : Heap} {k : Nat} {fI D : Addr} {F : SupFn} {dV kV doc pm ct oc : Value} {an od : Option Addr} {osl : Array (Option Value)} {N ps : List Str} {sp : Sp} {ar : Arg}
    (lk : K.lookup fI = some ⟨oc, od, .func (ksFn "__init__" F.qual F.params F.body F.scope dV kV doc pm an (.ref F.cda) ct F.cc), osl⟩) (hcd : codeIn K (.ref F.cda) F.qual = true) (S : NScope N ps ["__class__"] F.scope)
    (hp : (F.params.posonlyargs ++ F.params.args).head? = some ar) (h0 : ps.head? = some ar.arg) (hks : F.scope.names.lookup ("super" : Str) = some .globalImplicit)
    (hev : F.Ev) (len : ∀ vs H Q E, sp vs H Q E → vs.length = ps.length)
    (hbody : ∀ (A : Around) (outer : List Env) (s : Shared) (H : Hp) (vs : List V) (Q : VK) (E : XK), Room k (A.deeper (envF F.nf fI s.heap.objs.size)) → sp vs H Q E →
      ∃ (x C : Addr) (ta : TA) (t : TS), vs.head? = some (.ref x) ∧ H x = some (exo x C none) ∧ OexC K C ∧ Sup P K mg F.cda F.cc D C ∧
        PA (ncx CX P w K mg base N F.nf fI A outer s H E) [F.arg] ta ∧ PSs (ncx CX P w K mg base N F.nf fI A outer s H E) F.rest t ∧
        ta (startF N vs [none]) H fun ws H1 => ws.length ≤ 1000 ∧ H1 x = some (exo x C none) ∧ t { nx := fun _ H' => Q .non H', rt := Q } (startF N vs [none]) H1) :
    FnOk P w K mg base CX (k + 1) fI (ksFn "__init__" F.qual F.params F.body F.scope dV kV doc pm an (.ref F.cda) ct F.cc) ps sp := by
  refine ⟨len, fun A outer s H args us vs Q E hr e0 hb r hsp => ?_⟩
  have hl := len _ _ _ _ hsp
  have KX : K.In s.heap := e0.mod.kin.keeps fun b o e => (e0.bs b o e).1
  have lim : s.heap.NoLimit := e0.mod.nolimit.keeps fun b o e => (e0.bs b o e).1
  obtain ⟨x, C, ta, t, hx0, hx, T, U, pa, pb, hq⟩ := hbody A outer s H vs Q E (hr.deeper _) hsp
  obtain ⟨ccl, cdd, cvs, ccs, file, tf, hcode, hvs, hfile⟩ := U.code
  obtain ⟨cl, cld, csl, hcell⟩ := U.cell
  obtain ⟨cdD, hD⟩ := U.cls
  refine ks_codeAny_call_defAt (fd := ksFn "__init__" F.qual F.params F.body F.scope dV kV doc pm an (.ref F.cda) ct F.cc) (body := F.body) (binds := ps.zip us) hr.depth (KX _ _ lk) rfl lim (codeRec_of KX hcd) rfl hb S.nocell (fun ⟨n, _⟩ hy => S.par n (List.of_mem_zip hy).1) (fun h₁ hns kp => ?_) S.co S.gen S.kind
  have CA : CellsAt F.nf.cl ["__class__"] [none] s.heap H := by
    have hc0 : base.get? F.cc = _ := e0.mod.kin _ _ hcell
    obtain ⟨g1, g2⟩ := e0.bs _ _ hc0
    have key : ∀ y c, F.nf.cl.lookup y = some c → y = "__class__" ∧ c = F.cc := fun y c e => by
      by_cases hy : y = "__class__"
      · subst hy
        have e' : some F.cc = some c := by simpa [List.lookup] using e
        exact ⟨rfl, (Option.some.inj e').symm⟩
      · have hne : (y == ("__class__" : Str)) = false := by simpa using hy
        have e' : (none : Option Addr) = some c := by simpa [List.lookup, hne] using e
        cases e'
    refine ⟨rfl, fun y c e => ?_, fun a b c e1 e2 => (key _ _ e1).1.trans (key _ _ e2).1.symm, fun i y e => ?_⟩
    · obtain ⟨_, rfl⟩ := key y c e
      exact ⟨g2, _, _, g1, rfl⟩
    · obtain rfl : y = "__class__" := by
        cases i with
        | zero => exact (Option.some.inj e).symm
        | succ i => cases e
      refine ⟨F.cc, by simp [List.lookup], fun v e' => ?_⟩
      cases i with
      | zero => cases e'
      | succ i => cases e
  have I : Inv (ncx CX P w K mg base N F.nf fI A outer s H E) [] (startF N vs [none]) H { s with heap := h₁, toks := s.toks + (ps.zip us).length } := inv_startN (F := F.nf) S hr.hd e0 hl r CA hns kp
  generalize hs1 : ({ s with heap := h₁, toks := s.toks + (ps.zip us).length } : Shared) = s1 at I ⊢
  have X1 : K.In s1.heap := I.kIn
  obtain ⟨t1, ho⟩ := exo_at I.hok hx
  obtain ⟨oD, hD1, hD2⟩ : ∃ oD, s1.heap.get? D = some oD ∧ oD.data = .cls cdD := by
    unfold clsIn at hD
    split at hD
    · rename_i c d cd' sl ho
      cases hD
      exact ⟨_, X1 _ _ ho, rfl⟩
    · cases hD
  have J : InstAt s1.heap x { cls := .ref C, dict := none, data := .fields #[.ref t1, .none, .none, .none, .bool false, .none] } C none := ⟨ho, rfl, rfl, trivial⟩
  have hself : ∃ u0 ur, us = u0 :: ur ∧ u0 = .ref x := by
    cases vs with
    | nil => cases hx0
    | cons v vr =>
      cases r with
      | @cons _ u0 _ ur ra rr =>
        obtain rfl : v = V.ref x := Option.some.inj hx0
        exact ⟨_, _, rfl, ra⟩
  obtain ⟨u0, ur, eu, eu0⟩ := hself
  subst eu0
  have hN : ∃ pr, ps = ar.arg :: pr := by
    cases ps with
    | nil => cases h0
    | cons a pr =>
      obtain rfl : a = ar.arg := Option.some.inj h0
      exact ⟨pr, rfl⟩
  obtain ⟨pr, eps⟩ := hN
  have ndP : ps.Nodup := by
    have q := S.nd.sublist (List.take_sublist (ps.length + (["__class__"] : List Str).length) N)
    rw [S.pre] at q
    exact (List.nodup_append.mp q).1
  have hns1 : s1.heap.Ns s.heap.objs.size (fun y => (ps.zip us).reverse.lookup y) := by rw [← hs1]; exact hns
  have hav : (ps.zip us).reverse.lookup ar.arg = some (.ref x) := zip_look (i := 0) ndP (by rw [eps]; rfl) (by rw [eu]; rfl)
  have ea : (ncx CX P w K mg base N F.nf fI A outer s H E).xe = fun e s' => wpAny (model P w) (A.deeper (envF F.nf fI s.heap.objs.size)) (leaving (envF F.nf fI s.heap.objs.size) e) (fun _ s'' => CX outer H s E e s'') (fun e' s'' => CX outer H s E e' s'') s' := rfl
  show _root_.PySem.wpAt (model P w) (A.deeper (envF F.nf fI s.heap.objs.size)) (.func F.body (envF F.nf fI s.heap.objs.size)) (execs F.body (envF F.nf fI s.heap.objs.size)) _ (ncx CX P w K mg base N F.nf fI A outer s H E).xe s1
  obtain ⟨⟨pl, hev1⟩, hev2, hev3⟩ := hev (envF F.nf fI s.heap.objs.size)
  refine ks_wpAt_execs_cons (ks_wpAt_Expr_any (ks_wpAt_MethodCall (pl := pl) ?_ hev1) (by show interactive (envF F.nf fI s.heap.objs.size) = false; simp [interactive, S.kind]) hev3)
  obtain ⟨mb, hb1, hb2⟩ := e0.mod.blt
  refine ks_wpAt_super_base (env := envF F.nf fI s.heap.objs.size) (of := _) (fd := _) (ar := ar) (oc := _) hks (S.frk _ (by simp)) rfl rfl (X1 _ _ lk) rfl hp rfl (X1 _ _ hcode) rfl hvs hfile U.top ?_
  refine ks_loadName_global S.kind hks (loadGlobal_builtin (env := envF F.nf fI s.heap.objs.size) (e0.mod.glob.keeps I.bk) U.sup (hb1.keeps I.bk) ((hb2 _ (by decide)).trans (by decide +kernel)) ⟨rfl, ?_⟩)
  refine wpAny_loadName_free S.kind (S.frk _ (by simp)) rfl ⟨_, X1 _ _ hcell, rfl⟩ ?_
  refine wpAny_loadName_local S.kind (S.par _ (by rw [eps]; simp)) hns1 hav ?_
  refine ks_wpAny_isType_cls hD1 hD2 ⟨rfl, ?_⟩
  clear hns kp
  obtain ⟨hp1, g1, d1, tk1, os1⟩ := s1
  refine ks_wpAny_call_super hD1 hD2 J.at_ J.cls (fun c e => by cases e) (looks_mroIn X1 U.sub) (fun h2 es2 k2 => ?_)
  have I2 := I.kept (t' := tk1) k2
  have X2 : K.In h2 := I2.kIn
  have J2 : InstAt h2 x { cls := .ref C, dict := none, data := .fields #[.ref t1, .none, .none, .none, .bool false, .none] } C none := ⟨k2 _ _ ho, rfl, rfl, trivial⟩
  have hI : Looks (model P w) h2 (isInstance (.ref x) (.type "ValueError")) true := J2.type.andThen (looks_subIn X2 U.val)
  have hini := U.ini
  cases hc : clsIn K C with
  | none => unfold ks_superIn at hini; rw [hc] at hini; cases hini
  | some cd =>
    unfold ks_superIn at hini
    rw [hc] at hini
    refine kxs_getMethod kxs_ValueError es2 (looks_opaque X2 U.opq) (l₀ := cd.mro) (fun A Q E s k q => wpAny_bind ((looks_clsIn X2 hc) A _ E s k (wpAny_pure q))) rfl X2 hini hI (ks_ne X2 J2 hc) rfl ?_
    have k3 : ∀ b o, h2.get? b = some o → (h2.push (kxs_mw "ValueError.__init__" x)).get? b = some o := fun b o e => Heap.get?_push_of_some _ e
    have I3 := I2.kept (h' := h2.push (kxs_mw "ValueError.__init__" x)) (t' := tk1 + 1) k3
    have hu : (h2.push (kxs_mw "ValueError.__init__" x)).get? h2.objs.size = some (kxs_mw "ValueError.__init__" x) := Heap.get?_push_at rfl rfl
    have pin : Inv (ncx CX P w K mg base N F.nf fI A outer s H E) [(h2.objs.size, kxs_mw "ValueError.__init__" x)] (startF N vs [none]) H ⟨h2.push (kxs_mw "ValueError.__init__" x), g1, d1, tk1 + 1, os1⟩ := by
      refine Inv.pins_of I3 fun p hp => ?_
      obtain rfl : p = (h2.objs.size, kxs_mw "ValueError.__init__" x) := by simpa using hp
      refine ⟨hu, I2.hok.fresh (Nat.le_refl _), ?_, I2.nofs (Nat.le_refl _), fun v e => by cases e⟩
      exact Nat.ne_of_gt I2.lt
    refine mw_with (i := "ValueError.__init__") (x := x) hev2 rfl ?_
    refine wpAny_mono (pa.run F.p3 _ _ _ _ _ pin hq) (fun ws s2 hh => ?_) fun e s' hs => hs
    obtain ⟨vs2, H2, I4, r4, hlen, hx4, hq4⟩ := hh
    have hu4 : s2.heap.get? h2.objs.size = some (kxs_mw "ValueError.__init__" x) := (I4.pin (h2.objs.size, kxs_mw "ValueError.__init__" x) (by simp)).1
    refine ⟨hu4, ?_⟩
    have hlw : ws.length ≤ sizeLine := by
      rw [← r4.length, sizeLine_eq]
      omega
    refine mw_call (X := ncx CX P w K mg base N F.nf fI A outer s H E) T I4 hx4 hu4 hlw fun s5 I5 => ?_
    have I6 : Inv (ncx CX P w K mg base N F.nf fI A outer s H E) [] (startF N vs [none]) H2 s5 := I5.pins_of fun p hp => absurd hp (by simp)
    refine wpAt_of_wpAny (wpAny_mono (pb.run [] s5 _ H2 _ I6 hq4) (fun fl s' hs => ?_) fun e s' hs => hs)
    have fin : ∀ {σ' : L2.St} {H' : Hp} {v : V} {u : Value}, Inv (ncx CX P w K mg base N F.nf fI A outer s H E) [] σ' H' s' → L2.RelV v u → Q v H' → CE outer P w H s Q u s' :=
      fun {σ' H' v u} J rv q => ⟨v, H', J.os, J.bare, J.base, J.hok, rv, q⟩
    cases fl with
    | ret u =>
      obtain ⟨v, σ', H', J, rv, q⟩ := hs
      exact fin J rv q
    | next =>
      obtain ⟨σ', H', J, q⟩ := hs
      exact fin (v := V.non) (u := Value.none) J rfl q
    | brk =>
      obtain ⟨_, _, _, q⟩ := hs
      exact False.elim q
    | cont =>
      obtain ⟨_, _, _, q⟩ := hs
      exact False.elim q
end XS
namespace XS
open PySem L2 NdefX
/-- the words of an __init__ that begins with super().__init__(e) -/
def supOf (st : Stmt) (qual : Str) (cda cc : Addr) : SupFn := match defBody st with
  | .Expr (.Call (.Attribute (.Call (.Name _ p0) _ _ p1) _ p2) (a :: _) _ p3) p4 :: rest => ⟨qual, defArgs st, rest, defScope st, cda, cc, a, p0, p1, p2, p3, p4⟩
  | _ => ⟨qual, defArgs st, [], defScope st, cda, cc, .Name "x" ⟨0, 0, 0, 0⟩, ⟨0, 0, 0, 0⟩, ⟨0, 0, 0, 0⟩, ⟨0, 0, 0, 0⟩, ⟨0, 0, 0, 0⟩, ⟨0, 0, 0, 0⟩⟩
/-- an __init__(self, n1, n2) of an own exception: f'..' of both to super's, then both are stored -/
def spTwo (C : Addr) (n1 n2 : Str) : Sp := fun vs H Q _ => ∃ a v1 v2, vs = [.ref a, v1, v2] ∧ H a = some (exo a C none) ∧ (∃ k : Str, v1 = .str k ∧ k.length ≤ 100000) ∧ (∃ k : Str, v2 = .str k ∧ k.length ≤ 100000) ∧
  ∀ d, H d = none → d ≠ a → Q .non (upd (upd (upd H d (exd d [(n1, v1)])) a (exo a C (some d))) d (exd d [(n2, v2), (n1, v1)]))
/-- what the written part says of the class at C and of its __init__ at fI -/
structure Exn (prog : Program) (K : PySem.W.Frag) (mg : Str → Option Value) (C fI : Addr) (n1 n2 : Str) : Prop where
  oex : OexC K C
  n1 : PySem.W.findIn K (.ref C) n1 = some none
  n2 : PySem.W.findIn K (.ref C) n2 = some none
  iC : PySem.W.findIn K (.ref C) "__init__" = some (some (.ref fI))
  tI : PySem.W.typeIn K (.ref fI) = some (.type "function")
  xf : XfC K C
  te : PySem.W.exmOne K (.ref C) (.ref C) = some true
/-- the end of C(e, ..) as the caller has it -/
theorem made_two {C : Addr} {n1 n2 : Str} {v1 v2 : V} {H : Hp} {a d : Addr} (hne : d ≠ a) (ha : H a = none) :
    upd (del (upd (upd (upd (upd H a (exo a C none)) d (exd d [(n1, v1)])) a (exo a C (some d))) d (exd d [(n2, v2), (n1, v1)])) a) d (.xd [(n2, v2), (n1, v1)]) = upd H d (.xd [(n2, v2), (n1, v1)]) := by
  funext b
  by_cases hb : b = d
  · rw [hb, upd_same, upd_same]
  · rw [upd_ne hb, upd_ne hb]
    by_cases hc : b = a
    · rw [hc, del_same, ha]
    · rw [del_ne hc, upd_ne hb, upd_ne hc, upd_ne hb, upd_ne hc]
section
variable {X : Cx} {C fI : Addr} {n1 n2 x : Str} {e : Expr} {es : List Expr} {ta : TA} {p pos pos2 : Pos} {fd : FuncData} {k : Nat}
/-- raise C(e1, e2) -/
theorem ps_raise2 {W : WX} (hc : X.calm = true) (T : Exn X.prog X.K X.mg C fI n1 n2) (F : FnOk X.prog X.w X.K X.mg X.base CX0 k fI fd ["self", n1, n2] (spTwo C n1 n2)) (hr : Room (k + 1) X.A) (tk : Takes X W) (hb : Binds X.K fd ["self", n1, n2] []) (hg : Gl X x) (hm : X.mg x = some (.ref C)) (ha : PA X (e :: es) ta)
    (hdb : (x == ("__debug__" : Str)) = false := by decide) (he : starEach (e :: es) X.env = (false, eval e X.env) :: starEach es X.env := by rfl) (hpl : (backTo pos (starEach es X.env)).any (·.1) = false := by rfl) :
    PS X (.Raise (some (.Call (.Name x p) (e :: es) [] pos)) none pos2) (fun _ σ H => tMkO C (spTwo C n1 n2) [] ta σ H fun cls d H' => W cls d σ H') := ps_raise (pos := pos2) hc tk (pmk_oex (e := e) (es := es) (p := p) (pos := pos) T.oex T.iC T.tI F hr hb .nil pass0 hg hm ha hdb he hpl)
/-- .. its reading, behind the arguments' -/
theorem made2 {k1 k2 : Str} {H1 : Hp} {Q : XK} (z1 : k1.length ≤ 100000) (z2 : k2.length ≤ 100000) (w : ∀ d, H1 d = none → Q (.ref C) (some d) (upd H1 d (.xd [(n2, .str k2), (n1, .str k1)]))) :
    ([.str k1, .str k2] : List V).length ≤ 1000 ∧ ∀ a, H1 a = none → spTwo C n1 n2 (.ref a :: ([.str k1, .str k2] ++ [])) (upd H1 a (exo a C none))
      (fun v H2 => v = .non ∧ ∃ (d : Addr) (fs : List (Str × V)), H2 a = some (exo a C (some d)) ∧ H2 d = some (exd d fs) ∧ H1 d = none ∧ Q (.ref C) (some d) (upd (del H2 a) d (.xd fs))) (fun _ _ _ => False) := by
  refine ⟨by show 2 ≤ 1000; omega, fun a ha => ?_⟩
  refine ⟨a, .str k1, .str k2, rfl, upd_same, ⟨_, rfl, z1⟩, ⟨_, rfl, z2⟩, fun d hd hne => ⟨rfl, d, _, ?_, upd_same, ?_, ?_⟩⟩
  · rw [upd_ne (Ne.symm hne)]
    exact upd_same
  · rw [upd_ne hne] at hd
    exact hd
  · rw [upd_ne hne] at hd
    rw [made_two hne ha]
    exact w d hd
end
end XS
namespace PySem.W
open PySem PySem.Spec PySem.Calls PyProof.Rows
section
variable {prog : Program} {w : World} {A : Around} {E : Value → Shared → Prop} {s : Shared} {K : Frag} {x D : Addr} {ox : Obj}
end
end PySem.W
namespace L2
open PySem PySem.Spec PyProof.Rows
end L2
/-! own text: a dict whose keys are pairs of a mark (is it a bool?) and a key: null, a bool, a number, a text -/
namespace XT
open PySem PySem.Spec PyProof.Rows L2
def fk : V → NestedKey
  | .bl b => .num (if b = true then 1 else 0) | .int i => .num i | .str x => .text x | _ => .none
def isB : V → Bool
  | .bl _ => true | _ => false
def tk (k : V) : NestedKey := .tup [.num (if isB k = true then 1 else 0), fk k]
def keyOk : V → Bool
  | .non | .bl _ | .int _ | .str _ => true | _ => false
theorem tk_inj {a b : V} (ha : keyOk a = true) (hb : keyOk b = true) (h : tk a = tk b) : a = b := by
  unfold tk at h
  injection h with h
  injection h with h1 h2
  injection h2 with h2 _
  injection h1 with h1
  cases a <;> cases b <;> simp_all [fk, isB, keyOk]
  case bl.bl x y => cases x <;> cases y <;> simp_all
theorem tk_depth (k : V) : (tk k).depth ≤ 8 := by
  cases k <;> simp [tk, fk, NestedKey.depth, NestedKey.depthAll]
abbrev Ent := V × Addr × V
abbrev EV : List Ent → List (NestedKey × Addr × Value) → Prop := Paired fun p q => tk p.1 = q.1 ∧ p.2.1 = q.2.1 ∧ RelV p.2.2 q.2.2
def TabO (P : Program) (w : World) (a : Addr) (es : List Ent) : HO := .ext fun h => (a == sysModules) = false ∧ ∃ xs o ds ep, EV es xs ∧ h.get? a = some o ∧ o.ExactDict ∧ o.data = .dict ds ep ∧ ds.toList = xs.map (entryOfKey (nestedKind P w)) ∧ (xs.map (·.1)).Nodup
structure TabAt (P : Program) (w : World) (H : Hp) (a : Addr) (es : List Ent) : Prop where
  at_ : H a = some (TabO P w a es)
  keys : ∀ e ∈ es, keyOk e.1 = true ∧ H e.2.1 = some (.tup [.bl (isB e.1), e.1])
  len : es.length ≤ 1000000
def valT (es : List Ent) (k : V) : Option V := (es.find? fun e => decide (e.1 = k)).map (·.2.2)
def putT (es : List Ent) (k : V) (b : Addr) (v : V) : List Ent := if (valT es k).isSome = true then es.map (fun e => if e.1 = k then (e.1, e.2.1, v) else e) else es ++ [(k, b, v)]
def dropT (es : List Ent) (k : V) : List Ent := es.filter fun e => decide (e.1 ≠ k)
theorem key_is {P : Program} {w : World} {H : Hp} {h : Heap} {b : Addr} {k : V} (ok : HOk P w H h) (hk : keyOk k = true) (e : H b = some (.tup [.bl (isB k), k])) : (nestedKind P w).is h (tk k) b := by
  obtain ⟨_, its, r, o, h1, h2, n, h3⟩ := (show ObjOk P w H h b (.tup [.bl (isB k), k]) from ok b _ e)
  refine ⟨.tup h1 h2 h3 ?_, tk_depth k⟩
  cases r with
  | cons r1 r2 =>
    cases r2 with
    | cons r2 r3 =>
      cases r3
      cases (show _ = Value.bool (isB k) from r1)
      refine .cons (.bool rfl) (.cons ?_ .nil)
      cases k with
      | non => cases (show _ = Value.none from r2); exact .none
      | bl b => cases (show _ = Value.bool b from r2); exact .bool rfl
      | int i => obtain ⟨t, rfl⟩ := r2; exact .int i t
      | str x => obtain ⟨t, rfl⟩ := r2; exact .text x t
      | _ => exact nomatch hk
theorem EV.val {es : List Ent} {xs : List (NestedKey × Addr × Value)} (r : EV es xs) {k : V} (hk : keyOk k = true) (he : ∀ e ∈ es, keyOk e.1 = true) : RelO (valT es k) ((atKey xs (tk k)).map (·.2)) := by
  induction r with
  | nil => exact True.intro
  | @cons p q ps qs h t ih =>
    obtain ⟨h1, _, h2⟩ := h
    have ih := ih fun e m => he e (List.mem_cons_of_mem _ m)
    unfold valT at ih ⊢
    by_cases e : p.1 = k
    · have e' : q.1 = tk k := by rw [← h1, e]
      have b : atKey (q :: qs) (tk k) = some q.2 := by simp [atKey, List.find?_cons, e']
      rw [b, List.find?_cons, show decide (p.1 = k) = true from decide_eq_true e]
      exact h2
    · have e' : ¬ q.1 = tk k := fun z => e (tk_inj (he p (List.mem_cons_self ..)) hk (h1.trans z))
      have b : atKey (q :: qs) (tk k) = atKey qs (tk k) := by simp [atKey, List.find?_cons, e']
      rw [b, List.find?_cons, show decide (p.1 = k) = false from decide_eq_false e]
      exact ih
theorem EV.put {es : List Ent} {xs : List (NestedKey × Addr × Value)} (r : EV es xs) {k : V} {b : Addr} {v : V} {u : Value} (hk : keyOk k = true) (he : ∀ e ∈ es, keyOk e.1 = true) (rv : RelV v u) : EV (putT es k b v) (storedH xs (tk k) b u) := by
  have e : (valT es k).isSome = (atKey xs (tk k)).isSome := by
    rw [(r.val hk he).isSome_eq, Option.isSome_map]
  unfold putT storedH
  rw [e]
  by_cases q : (atKey xs (tk k)).isSome = true
  · rw [if_pos q, if_pos q]
    clear e q
    induction r with
    | nil => exact .nil
    | @cons p q ps qs h t ih =>
      rw [List.map_cons, List.map_cons]
      refine .cons ?_ (ih fun e m => he e (List.mem_cons_of_mem _ m))
      obtain ⟨h1, h2, h3⟩ := h
      unfold putAt
      by_cases e : p.1 = k
      · rw [if_pos e, if_pos (by rw [← h1, e])]
        exact ⟨h1, h2, rv⟩
      · rw [if_neg e, if_neg (fun z => e (tk_inj (he p (List.mem_cons_self ..)) hk (h1.trans z)))]
        exact ⟨h1, h2, h3⟩
  · rw [if_neg q, if_neg q]
    exact Paired.snoc r ⟨rfl, rfl, rv⟩
theorem EV.drop {es : List Ent} {xs : List (NestedKey × Addr × Value)} (r : EV es xs) {k : V} (hk : keyOk k = true) (he : ∀ e ∈ es, keyOk e.1 = true) : EV (dropT es k) (withoutH xs (tk k)) := by
  unfold dropT withoutH
  induction r with
  | nil => exact .nil
  | @cons p q ps qs h t ih =>
    have ih := ih fun e m => he e (List.mem_cons_of_mem _ m)
    obtain ⟨h1, h2, h3⟩ := h
    rw [List.filter_cons, List.filter_cons]
    by_cases e : p.1 = k
    · have a : ¬ decide (p.1 ≠ k) = true := by simp [e]
      have b : ¬ decide (q.1 ≠ tk k) = true := by simp [← h1, e]
      rw [if_neg a, if_neg b]
      exact ih
    · have e' : ¬ q.1 = tk k := fun z => e (tk_inj (he p (List.mem_cons_self ..)) hk (h1.trans z))
      have a : decide (p.1 ≠ k) = true := by simp [e]
      have b : decide (q.1 ≠ tk k) = true := by simp [e']
      rw [if_pos a, if_pos b]
      exact .cons ⟨h1, h2, h3⟩ ih
theorem TabAt.have {P : Program} {w : World} {H : Hp} {h : Heap} {a : Addr} {es : List Ent} (T : TabAt P w H a es) (ok : HOk P w H h) : (a == sysModules) = false ∧ ∃ xs, EV es xs ∧ h.DictOfH (nestedKind P w) a xs := by
  obtain ⟨⟨hs, xs, o, ds, ep, r, h1, h2, h3, h4, h5⟩, _, _⟩ := (show ObjOk P w H h a (TabO P w a es) from ok a _ T.at_)
  refine ⟨hs, xs, r, o, ds, ep, h1, h2, h3, h4, ?_, h5⟩
  have all : ∀ {l : List Ent} {m : List (NestedKey × Addr × Value)}, EV l m → (∀ e ∈ l, keyOk e.1 = true ∧ H e.2.1 = some (.tup [.bl (isB e.1), e.1])) → ∀ x ∈ m, (nestedKind P w).is h x.1 x.2.1 := by
    intro l m q
    induction q with
    | nil => intro _ x hx; exact nomatch hx
    | @cons p q ps qs hq t ih =>
      intro hl x hx
      rcases List.mem_cons.mp hx with e | hx
      · subst e
        have := hl p (List.mem_cons_self ..)
        rw [← hq.1, ← hq.2.1]
        exact key_is ok this.1 this.2
      · exact ih (fun e m => hl e (List.mem_cons_of_mem _ m)) x hx
  exact all r T.keys
theorem tab_new {P : Program} {w : World} {H : Hp} {h : Heap} {a : Addr} {es : List Ent} {xs : List (NestedKey × Addr × Value)} (hs : (a == sysModules) = false) (r : EV es xs) (d : h.DictOfH (nestedKind P w) a xs) : ObjOk P w H h a (TabO P w a es) := by
  obtain ⟨o, ds, ep, h1, h2, h3, h4, _, h5⟩ := d
  exact ⟨⟨hs, xs, o, ds, ep, r, h1, h2, h3, h4, h5⟩, ⟨o, h1⟩, fun g1 g2 ⟨_, xs', o', ds', ep', r', k1, k2⟩ st => ⟨hs, xs', o', ds', ep', r', st _ k1, k2⟩⟩
theorem room_in1 {A : Around} (hu : A.units + 64 < cLine) {P : Program} {w : World} : (nestedKind P w).room A.in1 := by
  show A.in1.units + 8 < cLine
  have : A.in1.units = A.units + 1 := by first | rfl | simp [Around.in1]
  omega
/-! ### the rules -/
def KeyAt (H : Hp) (b : Addr) (k : V) : Prop := keyOk k = true ∧ H b = some (.tup [.bl (isB k), k])
theorem TabAt.put {P : Program} {w : World} {H : Hp} {a b : Addr} {es : List Ent} {k v : V} (T : TabAt P w H a es) (hk : KeyAt H b k) (hl : es.length < 1000000) : TabAt P w (upd H a (TabO P w a (putT es k b v))) a (putT es k b v) := by
  have ne : ∀ {c : Addr} {ys : List V}, H c = some (.tup ys) → c ≠ a := fun {c ys} e z => by
    rw [z, T.at_] at e
    cases e
  refine ⟨upd_same, fun e he => ?_, ?_⟩
  · have all : keyOk e.1 = true ∧ H e.2.1 = some (.tup [.bl (isB e.1), e.1]) := by
      unfold putT at he
      split at he
      · obtain ⟨e0, h0, e1⟩ := List.mem_map.mp he
        have := T.keys e0 h0
        split at e1
        · subst e1
          exact this
        · subst e1
          exact this
      · rcases List.mem_append.mp he with he | he
        · exact T.keys e he
        · rw [List.mem_singleton] at he
          subst he
          exact hk
    exact ⟨all.1, by rw [upd_ne (ne all.2)]; exact all.2⟩
  · unfold putT
    split
    · rw [List.length_map]
      exact T.len
    · rw [List.length_append, List.length_singleton]
      omega
theorem TabAt.drop {P : Program} {w : World} {H : Hp} {a : Addr} {es : List Ent} {k : V} (T : TabAt P w H a es) : TabAt P w (upd H a (TabO P w a (dropT es k))) a (dropT es k) := by
  have ne : ∀ {c : Addr} {ys : List V}, H c = some (.tup ys) → c ≠ a := fun {c ys} e z => by
    rw [z, T.at_] at e
    cases e
  refine ⟨upd_same, fun e he => ?_, Nat.le_trans (List.length_filter_le _ _) T.len⟩
  have := T.keys e (List.mem_filter.mp he).1
  exact ⟨this.1, by rw [upd_ne (ne this.2)]; exact this.2⟩
theorem TabAt.mono {P : Program} {w : World} {H H' : Hp} {a : Addr} {es : List Ent} (T : TabAt P w H a es) (h1 : H' a = H a) (h2 : ∀ c ys, H c = some (.tup ys) → H' c = some (.tup ys)) : TabAt P w H' a es :=
  ⟨h1.trans T.at_, fun e he => ⟨(T.keys e he).1, h2 _ _ (T.keys e he).2⟩, T.len⟩
theorem sz_ok {es : List Ent} {xs : List (NestedKey × Addr × Value)} (r : EV es xs) (h : es.length ≤ 1000000) : xs.length ≤ sizeLine := by
  rw [← Paired.length r, sizeLine_eq]
  omega
section
variable {X : Cx} {o i value : Expr} {pos pos' tpos : Pos} {td ty tv : TE}
def tTNew (P : Program) (w : World) : TE := fun _ H Q => ∀ p, H p = none → Q (.ref p) (upd H p (TabO P w p []))
def tTGet (P : Program) (w : World) (td ty : TE) : TE := fun σ H Q => td σ H fun x H1 => ty σ H1 fun y H2 => ∃ a b k es v, x = .ref a ∧ y = .ref b ∧ TabAt P w H2 a es ∧ KeyAt H2 b k ∧ valT es k = some v ∧ Q v H2
def tTIn (P : Program) (w : World) (ty td : TE) : TE := fun σ H Q => ty σ H fun y H1 => td σ H1 fun x H2 => ∃ a b k es, x = .ref a ∧ y = .ref b ∧ TabAt P w H2 a es ∧ KeyAt H2 b k ∧ Q (.bl (valT es k).isSome) H2
def sTPut (P : Program) (w : World) (td ty tv : TE) : TS := fun D σ H => tv σ H fun v H1 => td σ H1 fun x H2 => ty σ H2 fun y H3 => ∃ a b k es, x = .ref a ∧ y = .ref b ∧ TabAt P w H3 a es ∧ KeyAt H3 b k ∧ D.nx σ (upd H3 a (TabO P w a (putT es k b v)))
def sTDel (P : Program) (w : World) (td ty : TE) : TS := fun D σ H => td σ H fun x H1 => ty σ H1 fun y H2 => ∃ a b k es, x = .ref a ∧ y = .ref b ∧ TabAt P w H2 a es ∧ KeyAt H2 b k ∧ (valT es k).isSome = true ∧ D.nx σ (upd H2 a (TabO P w a (dropT es k)))
theorem pe_tnew : PE X (.Dict [] [] pos) (tTNew X.prog X.w) := ⟨fun pins s σ H Q I h =>
  wpAny_Dict_empty ⟨.ref s.heap.objs.size, _, I.laid (a := s.heap.objs.size) (o := TabO X.prog X.w s.heap.objs.size []) (t' := s.toks) (fun _ _ q => Heap.get?_push_of_some _ q) (Nat.le_refl _)
    (tab_new (beq_eq_false_iff_ne.mpr (Ne.symm (Nat.ne_of_lt I.big))) .nil (Heap.DictOfH.new _)), rfl, h _ (I.hok.fresh (Nat.le_refl _))⟩⟩
theorem pe_tget (hu : X.A.units + 64 < cLine) (ho : PE X o td) (hi : PE X i ty) (hs : NoSl i) : PE X (.Subscript o i pos) (tTGet X.prog X.w td ty) := by
  refine ⟨fun pins s σ H Q I h => ?_⟩
  refine subD_of PySem.F.slot_dict_getitem.lookup hs (thn (ho.run pins s σ H _ I h) fun u s1 ⟨x, H1, I1, rx, q1⟩ => thn (hi.run pins s1 σ H1 _ I1 q1) fun iv s2 ⟨y, H2, I2, ry, a, b, k, es, v, ex, ey, T, hk, hv, q2⟩ => ?_)
  subst ex ey
  obtain rfl : u = Value.ref a := rx
  obtain rfl : iv = Value.ref b := ry
  obtain ⟨hd, xs, r, dd⟩ := T.have I2.hok
  obtain ⟨w', hw, rw'⟩ := RelO.some_of (v := v) (o := (atKey xs (tk k)).map (·.2)) (by rw [← hv]; exact r.val hk.1 fun e m => (T.keys e m).1)
  obtain ⟨p, hp, hp2⟩ := Option.map_eq_some_iff.mp hw
  refine ⟨dd.typeIs, wpAny_getItem_heap (room_in1 hu) (key_is I2.hok hk.1 hk.2) dd hp ?_⟩
  rw [hp2]
  exact ⟨v, H2, I2.tok _, rw', q2⟩
theorem pc_tin (hu : X.A.units + 64 < cLine) (hi : PE X i ty) (ho : PE X o td) : PC X .In i o (tTIn X.prog X.w ty td) := by
  refine ⟨fun pins s σ H Q I h => ?_⟩
  refine thn (hi.run pins s σ H _ I h) fun iv s1 ⟨y, H1, I1, ry, q1⟩ => thn (ho.run pins s1 σ H1 _ I1 q1) fun u s2 ⟨x, H2, I2, rx, a, b, k, es, ex, ey, T, hk, q2⟩ => ?_
  subst ex ey
  obtain rfl : u = Value.ref a := rx
  obtain rfl : iv = Value.ref b := ry
  obtain ⟨hd, xs, r, dd⟩ := T.have I2.hok
  refine wpAny_in_heap (room_in1 hu) (key_is I2.hok hk.1 hk.2) hd dd ?_
  have q := (r.val hk.1 fun e m => (T.keys e m).1).isSome_eq
  rw [Option.isSome_map] at q
  rw [← q]
  exact ⟨.bl (valT es k).isSome, H2, I2.tok _, rfl, q2⟩
theorem ps_tput (hu : X.A.units + 64 < cLine) (ho : PE X o td) (hi : PE X i ty) (hv : PE X value tv) (hs : swapsWith value (some (.Subscript o i pos')) pos.line X.env = pure false) :
    PS X (.Assign [.Subscript o i pos'] value pos) (sTPut X.prog X.w td ty tv) := by
  refine ⟨fun pins s σ H D I h => ?_⟩
  refine wpAny_Assign_Subscript (thn (hv.run pins s σ H _ I h) fun r s1 ⟨v, H1, I1, rv, q1⟩ => thn (ho.run pins s1 σ H1 _ I1 q1) fun u s2 ⟨x, H2, I2, rx, q2⟩ => thn (hi.run pins s2 σ H2 _ I2 q2) fun iv s3 ⟨y, H3, I3, ry, a, b, k, es, ex, ey, T, hk, q3⟩ => ?_) hs
  subst ex ey
  obtain rfl : u = Value.ref a := rx
  obtain rfl : iv = Value.ref b := ry
  obtain ⟨hd, xs, rr, dd⟩ := T.have I3.hok
  refine wpAny_setItem_heap (hsz := sz_ok rr T.len) (room_in1 hu) (key_is I3.hok hk.1 hk.2) dd fun h' dd' hsb => ?_
  have he : ∃ q, h'.get? a = some q := let ⟨q, _, _, hq, _⟩ := dd'; ⟨q, hq⟩
  exact ⟨σ, _, d_write I3 (by rw [T.at_]; exact True.intro) hsb he (tab_new hd (rr.put hk.1 (fun e m => (T.keys e m).1) rv) dd'), q3⟩
theorem ps_tdel (hu : X.A.units + 64 < cLine) (ho : PE X o td) (hi : PE X i ty) : PS X (.Delete [.Subscript o i tpos] pos) (sTDel X.prog X.w td ty) := by
  refine ⟨fun pins s σ H D I h => ?_⟩
  refine wpAny_Delete (wpAny_deleteEach_cons (wpAny_delete_Subscript (thn (ho.run pins s σ H _ I h) fun u s1 ⟨x, H1, I1, rx, q1⟩ => thn (hi.run pins s1 σ H1 _ I1 q1) fun iv s2 ⟨y, H2, I2, ry, a, b, k, es, ex, ey, T, hk, hv, q2⟩ => ?_)))
  subst ex ey
  obtain rfl : u = Value.ref a := rx
  obtain rfl : iv = Value.ref b := ry
  obtain ⟨hd, xs, rr, dd⟩ := T.have I2.hok
  have he1 : ∀ e ∈ es, keyOk e.1 = true := fun e m => (T.keys e m).1
  obtain ⟨p, hp⟩ : ∃ p, atKey xs (tk k) = some p := by
    have q := (rr.val hk.1 he1).isSome_eq
    rw [Option.isSome_map, hv] at q
    exact Option.isSome_iff_exists.mp q.symm
  refine wpAny_delItem_heap (hsz := sz_ok rr T.len) (room_in1 hu) (key_is I2.hok hk.1 hk.2) hd dd hp fun h' dd' hsb => wpAny_deleteEach_nil ?_
  have he : ∃ q, h'.get? a = some q := let ⟨q, _, _, hq, _⟩ := dd'; ⟨q, hq⟩
  exact ⟨σ, _, d_write I2 (by rw [T.at_]; exact True.intro) hsb he (tab_new hd (rr.drop hk.1 he1) dd'), q2⟩
/-- len(d) -/
theorem call_len_tab : CallR X (.builtin "len") (fun vs H Q => ∃ a es, vs = [.ref a] ∧ TabAt X.prog X.w H a es ∧ Q (.int (es.length : Nat)) H) := by
  intro pins s σ H vs us Q I rv h
  obtain ⟨a, es, rfl, T, q⟩ := h
  obtain ⟨u, rfl, ru⟩ := rv.one
  obtain rfl : u = Value.ref a := ru
  obtain ⟨hd, xs, r, dd⟩ := T.have I.hok
  have hz := sz_ok r T.len
  refine call_len_dictH hd dd (by rw [sizeLine_eq] at hz; omega) ?_
  rw [← Paired.length r]
  exact ⟨.int _, H, I.tok _, ⟨_, rfl⟩, q⟩
end
end XT
/-! own text: the values of such a dict, as a list -/
namespace XT
open PySem PySem.Spec PyProof.Rows L2
def ViewO (d v : Addr) : HO := .ext fun h => h.IsValuesView v d
theorem EV.vals {es : List Ent} {xs : List (NestedKey × Addr × Value)} (r : EV es xs) : Vals (es.map (·.2.2)) (xs.map (·.2.2)) := by
  induction r with
  | nil => exact .nil
  | cons h t ih => exact .cons h.2.2 ih
section
variable {prog : Program} {w : World} {A : Around} {E : Value → Shared → Prop} {s : Shared}
theorem meets_vals (d : Addr) (hd : (d == sysModules) = false) :
    MeetsIn prog w (Builtin.«dict.values» ⟨[.ref d], []⟩) (fun _ R s => s.TypeIs (.ref d) "dict" ∧
      R (.ok (.ret (.ref s.heap.objs.size))) { s with heap := s.heap.push { cls := .type "dict_values", data := .fields #[.ref d] } }) :=
  .of_wp fun A R s ⟨hm, h⟩ => by
    refine wpAny_bind ?_
    unfold Builtin.Dict.noArgs
    refine wpAny_bind (wpAny_notOrdered_dict hm ?_)
    show wpAny _ _ (pure d) _ _ s
    refine wpAny_pure ?_
    show wpAny _ _ (Builtin.Dict.showsAll d >>= _) _ _ s
    unfold Builtin.Dict.showsAll
    rw [if_neg (by rw [hd]; exact Bool.false_ne_true)]
    refine wpAny_bind (wpAny_pure ?_)
    exact wpAny_bind (wpAny_newObj_type (wpAny_pure ⟨_, rfl, h⟩))
end
section
variable {X : Cx} {o : Expr} {to : TE} {apos cpos : Pos}
def tTVals (P : Program) (w : World) (to : TE) : TE := fun σ H Q => to σ H fun x H1 => ∃ a es, x = .ref a ∧ TabAt P w H1 a es ∧ ∀ v, H1 v = none → Q (.ref v) (upd H1 v (ViewO a v))
theorem pe_tvals (ho : PE X o to) (hbase : attributeBase o "values" X.env (eval o X.env) = eval o X.env := by rfl) (hline : (apos.endLine == cpos.line) = true := by rfl) : PE X (.Call (.Attribute o "values" apos) [] [] cpos) (tTVals X.prog X.w to) := by
  refine ⟨fun pins s σ H Q I h => ?_⟩
  refine wpAny_Call_method0_late hbase hline (thn (ho.run pins s σ H _ I h) fun v s1 ⟨x, H1, I1, r1, a, es, ex, T, q1⟩ => ?_)
  subst ex
  obtain rfl : v = Value.ref a := r1
  obtain ⟨hd, xs, r, dd⟩ := T.have I1.hok
  refine ⟨"dict", "dict.values", PySem.F.plainAttrs_dict, PySem.F.slot_dict_values, PySem.F.type_dict_values, dd.typeIs, fun b e => ?_, Calls.callWith_builtin rfl (PySem.evalArgs_none ?_)⟩
  · cases e
    obtain ⟨ob, _, _, h1, h2, _⟩ := dd
    exact ⟨ob, h1, h2.2.1⟩
  refine call_meetsIn PySem.F.slot_dict_values dd.typeIs PySem.F.entry_dict_values (PySem.F.args_dict_values_1 _) (meets_vals a hd) ⟨dd.typeIs, ?_⟩
  have hv : (s1.heap.push { cls := .type "dict_values", data := .fields #[.ref a] }).IsValuesView s1.heap.objs.size a := ⟨_, Heap.get?_push_size _ rfl, rfl, rfl⟩
  refine ⟨.ref s1.heap.objs.size, _, I1.laid (a := s1.heap.objs.size) (o := ViewO a s1.heap.objs.size) (t' := s1.toks) (fun _ _ q => Heap.get?_push_of_some _ q) (Nat.le_refl _) ?_, rfl, q1 _ (I1.hok.fresh (Nat.le_refl _))⟩
  exact ⟨hv, ⟨_, Heap.get?_push_size _ rfl⟩, fun g1 g2 ⟨ob, k1, k2⟩ st => ⟨ob, st _ k1, k2⟩⟩
/-- list(d.values()) -/
theorem call_list_vals (hc : X.calm = true) : CallR X (.type "list") (fun vs H Q => ∃ v a es, vs = [.ref v] ∧ H v = some (ViewO a v) ∧ TabAt X.prog X.w H a es ∧ ∀ l, H l = none → Q (.ref l) (upd H l (.lst (es.map (·.2.2))))) := by
  intro pins s σ H vs us Q I rv h
  obtain ⟨v, a, es, rfl, hv, T, q⟩ := h
  obtain ⟨u, rfl, ru⟩ := rv.one
  obtain rfl : u = Value.ref v := ru
  obtain ⟨hd, xs, r, ob, ds, ep, h1, h2, h3, h4, h5, h6⟩ := T.have I.hok
  obtain ⟨hview, _, _⟩ := (show ObjOk X.prog X.w H s.heap v (ViewO a v) from I.hok v _ hv)
  have hview : s.heap.IsValuesView v a := hview
  have hsz : ds.size = xs.length := by
    rw [← Array.length_toList, h4, List.length_map]
  have hz := sz_ok r T.len
  refine W.kdl_call PySem.KdlSrc.rawValues (I.ok.hd hc) ⟨hview, ob, h1, h2, h3⟩ (by omega) fun h' tk acc' c' hk hS hacc => ?_
  have ea : acc'.toList = xs.map (·.2.2) := by
    refine List.ext_getElem? fun j => ?_
    by_cases hj : j < ds.size
    · have hj' : j < acc'.size := by rw [hacc.1]; exact hj
      obtain ⟨hi, e⟩ := hacc.2 j acc'[j] (by rw [Array.getElem?_eq_getElem hj'])
      have e2 : ds.toList[j]? = (xs.map (entryOfKey (nestedKind X.prog X.w)))[j]? := by rw [h4]
      rw [List.getElem?_map, Array.getElem?_toList, Array.getElem?_eq_getElem hj] at e2
      rw [Array.getElem?_toList, Array.getElem?_eq_getElem hj', e, List.getElem?_map]
      cases hx : xs[j]? with
      | none => rw [hx] at e2; cases e2
      | some x =>
        rw [hx] at e2
        rw [Option.some.inj e2]
        rfl
    · rw [List.getElem?_eq_none (by rw [Array.length_toList, hacc.1]; omega), List.getElem?_eq_none (by rw [List.length_map]; omega)]
  refine ⟨.ref s.heap.objs.size, _, I.laid (t' := tk) hk (Nat.le_refl _) (show ObjOk X.prog X.w _ h' _ (.lst (es.map (·.2.2))) from ⟨?_, acc'.toList, c', ?_, ?_⟩), rfl, q _ (I.hok.fresh (Nat.le_refl _))⟩
  · rw [List.length_map, Paired.length r]
    exact hz
  · rw [ea]
    exact r.vals
  · rw [Array.toArray_toList]
    exact hS
end
end XT
/-! own text: an own exception with an __init__ of its own as a value that is kept -/
namespace XE
open PySem PySem.Spec PyProof.Rows L2
/-- the exception at a, of the class at C, its dict at d -/
structure ExAt (H : Hp) (a C d : Addr) (fs : List (Str × V)) : Prop where
  e : H a = some (exo a C (some d))
  d : H d = some (exd d fs)
section
variable {X : Cx} {e : Expr} {es : List Expr} {ta : TA} {te : TE} {p pos : Pos}
end
end XE
/-! own text: del xs[lo:hi] of a list -/
namespace XD
open PySem PySem.Spec PyProof.Rows L2
open Sem (wp)
section
variable {prog : Program} {w : World} {A : Around} {E : Value → Shared → Prop} {s : Shared}
end
variable {X : Cx} {o : Expr} {to : TE} {lo hi : Option Expr} {tl th : TO} {tpos p2 pos : Pos}
end XD
/-! own text: list(x) of a text -/
namespace XL
open PySem PySem.Spec PyProof.Rows L2 PySem.W
open Sem (wp)
section
variable {prog : Program} {w : World} {A : Around} {E : Value → Shared → Prop} {s : Shared} {x : Str} {t : Tok}
end
/-- the signs of a text, as texts -/
def signs (x : Str) : List Str := x.cps.toList.map fun c => ⟨#[c]⟩
end XL
/-! own text: a call of a local name that holds one of several defs, with starred arguments or not, which may raise -/
namespace XS
open PySem PySem.Spec PyProof.Rows L2
/-- what the slot may hold: a def with its promise; what it raises is told at the slots -/
structure HeldX (P : Program) (w : World) (K : PySem.W.Frag) (mg : Str → Option Value) (base : Heap) (k : Nat) (f : Addr) (sp : Sp) : Prop where
  ex : ∃ (fd : FuncData) (ps : List Str), FnOk P w K mg base (L2.CX P w) k f fd ps sp ∧ PySem.W.keepIn K (.ref f) = true ∧ Binds K fd ps []
def tCallX (i : Nat) (S : Addr → Option Sp) (E : L2.St → XK) (t : TA) : TE := fun σ H Q => ∃ f sp, σ[i]? = some (some (.ref f)) ∧ S f = some sp ∧ t σ H fun vs H1 => sp vs H1 Q (E σ)
section
variable {X : Cx} {k i : Nat} {S : Addr → Option Sp} {E : L2.St → XK} {x : Str} {p pos : Pos} {e : Expr} {es : List Expr} {t : TA}
/-- x(e, .., *y) -/
theorem pe_callXS (A : ∀ f sp, S f = some sp → HeldX X.prog X.w X.K X.mg X.base k f sp) (hr : Room k X.A) (hN : X.N[i]? = some x) (hv : Vis X.env.scope x) (hx : ∀ σ, PassesAt (L2.CX X.prog X.w) X σ (E σ)) (ha : PA X (e :: es) t)
    (hdb : (x == ("__debug__" : Str)) = false := by decide) (hcd : (x == ("__classdict__" : Str)) = false := by decide)
    (he : starEach (e :: es) X.env = (false, eval e X.env) :: starEach es X.env := by rfl) (hst : (backTo pos (starEach es X.env)).any (·.1) = true := by rfl) : PE X (.Call (.Name x p) (e :: es) [] pos) (tCallX i S E t) := by
  refine ⟨fun pins s σ H Q I h => ?_⟩
  obtain ⟨f, sp, hs, hS, ht⟩ := h
  obtain ⟨fd, ps, F, hk, hb⟩ := (A f sp hS).ex
  refine wpAny_Call_Name_kw (thn ((pe_var (pos := p) hN hv hdb hcd).run pins s σ H (fun v H1 => v = .ref f ∧ H1 = H) I ⟨.ref f, hs, rfl, rfl⟩) fun u s1 ⟨v, H1, I1, r1, q1⟩ => ?_)
  obtain ⟨rfl, rfl⟩ := q1
  cases r1
  refine PySem.W.callWith_S2 (h₀ := X.base) I.ok.mod.kin hk (thn (ha.run pos pins s1 σ _ _ I1 ht) fun us s2 ⟨vs, H2, I2, r, q⟩ => ⟨I2.kIn, ?_⟩) he hst
  exact run_fnS F hr hb (hx σ) I2 r q
end
end XS
/-! own text: zip of a list and a tuple -/
namespace XZ
open PySem PySem.Spec PyProof.Rows L2
open PySem.Sem (wp)
abbrev mH1 (h : Heap) (l1 : Addr) : Heap := h.push { cls := .type "list_iterator", data := .fields #[.ref l1, .int 0 0] }
abbrev mH2 (h : Heap) (l1 l2 : Addr) : Heap := (mH1 h l1).push { cls := .type "tuple_iterator", data := .fields #[.ref l2, .int 0 0] }
abbrev mH3 (h : Heap) (l1 l2 : Addr) : Heap := (mH2 h l1 l2).push { cls := .type "tuple", data := .seq #[.ref h.objs.size, .ref (mH1 h l1).objs.size] }
abbrev mH4 (h : Heap) (l1 l2 : Addr) : Heap := (mH3 h l1 l2).push { cls := .type "tuple", data := .seq #[.none, .none] }
abbrev mH5 (h : Heap) (l1 l2 : Addr) : Heap := (mH4 h l1 l2).push { cls := .type "zip", data := .fields #[.none, .bool false, .bool false, .ref (mH2 h l1 l2).objs.size, .ref (mH3 h l1 l2).objs.size] }
theorem meets_new (l1 l2 : Addr) (xs ys : Array Value) :
    Meets (Builtin.«zip.__new__» ⟨[.type "zip", .ref l1, .ref l2], []⟩) (fun _ R s => s.heap.IsList l1 xs ∧ s.heap.IsTuple l2 ys ∧
      R (.ok (.ret (.ref (mH4 s.heap l1 l2).objs.size))) { s with heap := mH5 s.heap l1 l2 }) :=
  .of_wp fun prog w A R s h => by
    obtain ⟨hp, g, d, tk, os⟩ := s; obtain ⟨hl1, hl2, h⟩ := h
    have hsub := sub_zip
    have hL1 : Heap.IsList (Shared.heap ⟨hp, g, d, tk, os⟩) l1 xs := hl1
    have hL2 : Heap.IsTuple (Shared.heap ⟨hp.push { cls := .type "list_iterator", data := .fields #[.ref l1, .int 0 0] }, g, d, tk, os⟩) l2 ys := Heap.IsTuple.push hl2 _
    wp_walk using wpAny_pyIter_list hL1, wpAny_pyIter_tuple hL2
    exact ⟨_, rfl, h⟩
section
variable {prog : Program} {w : World} {A : Around} {E : Value → Shared → Prop} {s : Shared}
theorem call_zipM {l1 l2 : Addr} {xs ys : Array Value} {Q : Value → Shared → Prop} (hl1 : s.heap.IsList l1 xs) (hl2 : s.heap.IsTuple l2 ys)
    (h : ∀ h', IsZip h' (s.heap.objs.size + 4) (s.heap.objs.size + 2) (s.heap.objs.size + 3) .none → IsPair h' (s.heap.objs.size + 2) (.ref s.heap.objs.size) (.ref (s.heap.objs.size + 1)) →
      IsPair h' (s.heap.objs.size + 3) .none .none → h'.IsListIter s.heap.objs.size l1 0 → h'.IsTupleIter (s.heap.objs.size + 1) l2 0 → h'.objs.size = s.heap.objs.size + 5 →
      (∀ c o, s.heap.get? c = some o → h'.get? c = some o) → Q (.ref (s.heap.objs.size + 4)) { s with heap := h' }) :
    wpAny (model prog w) A (call (.type "zip") [.ref l1, .ref l2]) Q E s := by
  refine callType_new F.called_zip (by decide) (F.typeCall_zip_2 _ _) (F.newCall_zip_2 _ _) (fun obj => F.args_object_init_3 obj _ _) F.entry_zip_new
    (meets_new l1 l2 xs ys) ⟨hl1, hl2, ?_⟩
  have z1 : (mH1 s.heap l1).objs.size = s.heap.objs.size + 1 := Heap.size_push ..
  have z2 : (mH2 s.heap l1 l2).objs.size = s.heap.objs.size + 2 := by rw [Heap.size_push, z1]
  have z3 : (mH3 s.heap l1 l2).objs.size = s.heap.objs.size + 3 := by rw [Heap.size_push, z2]
  have z4 : (mH4 s.heap l1 l2).objs.size = s.heap.objs.size + 4 := by rw [Heap.size_push, z3]
  have z5 : (mH5 s.heap l1 l2).objs.size = s.heap.objs.size + 5 := by rw [Heap.size_push, z4]
  have g5 : (mH5 s.heap l1 l2).get? (mH4 s.heap l1 l2).objs.size = some _ := Heap.get?_push_size _ rfl
  have g4 : (mH5 s.heap l1 l2).get? (mH3 s.heap l1 l2).objs.size = some _ := Heap.get?_push_of_some _ (Heap.get?_push_size _ rfl)
  have g3 : (mH5 s.heap l1 l2).get? (mH2 s.heap l1 l2).objs.size = some _ := Heap.get?_push_of_some _ (Heap.get?_push_of_some _ (Heap.get?_push_size _ rfl))
  have g2 : (mH5 s.heap l1 l2).get? (mH1 s.heap l1).objs.size = some _ := Heap.get?_push_of_some _ (Heap.get?_push_of_some _ (Heap.get?_push_of_some _ (Heap.get?_push_size _ rfl)))
  have g1 : (mH5 s.heap l1 l2).get? s.heap.objs.size = some _ := Heap.get?_push_of_some _ (Heap.get?_push_of_some _ (Heap.get?_push_of_some _ (Heap.get?_push_of_some _ (Heap.get?_push_size _ rfl))))
  show _ ∧ _
  rw [z2, z3, z4] at g5
  rw [z1, z2] at g3
  rw [z3] at g4
  rw [z1] at g2
  rw [z4]
  exact ⟨⟨_, g5, rfl⟩, h _ g5 g3 g4 ⟨_, g1, rfl, rfl⟩ ⟨_, g2, rfl, rfl⟩ z5 fun c o x =>
    Heap.get?_push_of_some _ (Heap.get?_push_of_some _ (Heap.get?_push_of_some _ (Heap.get?_push_of_some _ (Heap.get?_push_of_some _ x))))⟩
end
/-- the list at a and the tuple at b, the items in new pairs -/
def ItzM (K : PySem.W.Frag) (a b : Addr) : It :=
  ⟨fun i H => ∃ (xs ys : List V) (x y : V), SqL K H a xs ∧ SqT K H b ys ∧ xs[i]? = some x ∧ ys[i]? = some y,
    fun i H v H' => ∃ T x y, v = .ref T ∧ H T = none ∧ H' = upd H T (.tup [x, y]) ∧ (∀ xs, SqL K H a xs → xs[i]? = some x) ∧ ∀ ys, SqT K H b ys → ys[i]? = some y,
    fun i H => ∃ xs ys : List V, SqL K H a xs ∧ SqT K H b ys ∧ xs.length = i ∧ ys.length = i⟩
theorem sep2 {a b z TI TO i1 i2 : Addr} (D : ZipApart z TI TO i1 i2 a b) : ZipSep2 z TI TO i1 i2 [i1, a] [i2, b] where
  TIz := D.TIz
  TOz := D.TOz
  TITO := D.TITO
  TIi1 := D.TIi1
  mem1 := by simp
  zf1 := by simp [D.i1z.symm, D.l1z.symm]
  Tf1 := by simp [D.TOi1, D.l1TO.symm]
  TIi2 := D.TIi2
  mem2 := by simp
  zf2 := by simp [D.i2z.symm, D.l2z.symm]
  Tf2 := by simp [D.TOi2, D.l2TO.symm]
  sep1_2 := by simp [D.i12, D.l2i1.symm]
  sep2_1 := by simp [D.i12.symm, D.l1i2.symm]
theorem turn_zipM {P : Program} {w : World} {K : PySem.W.Frag} {elts : List Expr} {kk : Nat} {tpos : Pos} {a b z TI TO i1 i2 : Addr} (D : ZipApart z TI TO i1 i2 a b) :
    Turn P w K (.Tuple elts kk tpos) (ItzM K a b) [z, TI, TO, i1, i2] z (fun i h => IsZip h z TI TO .none ∧ IsPair h TI (.ref i1) (.ref i2) ∧ (∃ x y, IsPair h TO x y) ∧ h.IsListIter i1 a i ∧ h.IsTupleIter i2 b i) where
  mem := by simp
  obj := fun i h st c hc => by
    obtain ⟨hz, hTI, ⟨x, y, hTO⟩, ⟨o1, e1, _, d1⟩, ⟨o2, e2, _, d2⟩⟩ := st
    have e' : c = z ∨ c = TI ∨ c = TO ∨ c = i1 ∨ c = i2 := by simpa using hc
    rcases e' with q | q | q | q | q
    · rw [q]; exact ⟨_, hz, fun v q => nomatch q⟩
    · rw [q]; exact ⟨_, hTI, fun v q => nomatch q⟩
    · rw [q]; exact ⟨_, hTO, fun v q => nomatch q⟩
    · rw [q]; exact ⟨o1, e1, fun v q => by rw [d1] at q; cases q⟩
    · rw [q]; exact ⟨o2, e2, fun v q => by rw [d2] at q; cases q⟩
  keep := fun i h h' st k => by
    obtain ⟨hz, hTI, ⟨x, y, hTO⟩, h1, h2⟩ := st
    exact ⟨k z (by simp) _ hz, k TI (by simp) _ hTI, ⟨x, y, k TO (by simp) _ hTO⟩, h1.at fun o q => k i1 (by simp) o q, h2.at fun o q => k i2 (by simp) o q⟩
  item := by
    intro X hP hw hK hc i pins s σ H E I hf st hg
    subst hP hw hK
    obtain ⟨hz, hTI, ⟨x0, y0, hTO⟩, h1, h2⟩ := st
    obtain ⟨xs, ys, x, y, hqx, hqy, hx, hy⟩ := hg
    obtain ⟨its, rv, p, _⟩ := I.list hqx
    obtain ⟨its2, rv2, p2, _⟩ := I.tuple hqy
    obtain ⟨u, hu, ru⟩ := rv.get hx
    obtain ⟨u2, hu2, ru2⟩ := rv2.get hy
    have hzl : z < s.heap.objs.size := Heap.lt_size hz
    have lt1 : i < its.toArray.size := by
      have := (List.getElem?_eq_some_iff.mp hu).1
      simpa using this
    have lt2 : i < its2.toArray.size := by
      have := (List.getElem?_eq_some_iff.mp hu2).1
      simpa using this
    refine PySem.wpAny_pyNext_zipD2_item (sep2 D) (Draws.list (A := X.A.in1) (I.ok.hd hc) i1 a D.l1i1 its.toArray) (Draws.tuple (A := X.A.in1) (I.ok.hd hc) i2 b D.l2i2 its2.toArray) hz hTI hTO ⟨h1, p.isList⟩ ⟨h2, p2⟩ lt1 lt2 fun x1 x2 h' tk e1 e2 z' TO' st1 st2 hT hsz hk => ?_
    have ex1 : x1 = u := by
      have h3 : its[i]? = some x1 := by simpa using e1
      rw [hu] at h3
      exact (Option.some.inj h3).symm
    have ex2 : x2 = u2 := by
      have h3 : its2[i]? = some x2 := by simpa using e2
      rw [hu2] at h3
      exact (Option.some.inj h3).symm
    subst ex1 ex2
    refine ⟨_, rfl, wpAny_letOwnedTupleGo_zip (s := { s with heap := h', toks := tk }) z' fun h'' z'' sb => ?_⟩
    have hT2 : h''.get? s.heap.objs.size = some { cls := .type "tuple", data := .seq #[x1, x2] } := (sb.2 _ (Nat.ne_of_gt hzl)).trans hT
    have new : ObjOk X.prog X.w (upd H s.heap.objs.size (.tup [x, y])) h'' s.heap.objs.size (.tup [x, y]) :=
      ⟨by show 2 ≤ sizeLine; decide, [x1, x2], .cons ru (.cons ru2 .nil), ⟨_, hT2, rfl, _, rfl⟩⟩
    have I1 : Inv X pins σ (upd H s.heap.objs.size (.tup [x, y])) { s with heap := h'', toks := tk } :=
      I.turnedNew (t' := tk) (ch := [z, TI, TO, i1, i2]) (fun c o hb q => (sb.2 c (fun q' => hb (by simp [q']))).trans (hk c o (fun q' => hb (by simp [q'])) (fun q' => hb (by simp [q'])) (fun q' => hb (by simp [q'])) (fun q' => hb (by simp [q'])) q)) hf (Nat.le_refl _) new
    refine ⟨.ref s.heap.objs.size, _, I1, rfl, ⟨_, x, y, rfl, I.hok.fresh (Nat.le_refl _), rfl, fun l hl => by rw [I.list_inj hl hqx]; exact hx, fun l hl => by rw [I.tuple_inj hl hqy]; exact hy⟩, ⟨z'', ?_, ⟨x1, x2, ?_⟩, ?_, ?_⟩, fun c hcm => ?_⟩
    · exact (sb.2 _ D.TIz).trans (hk _ _ D.TIz D.TITO D.TIi1 D.TIi2 hTI)
    · exact (sb.2 _ D.TOz).trans TO'
    · exact st1.1.at fun o q => (sb.2 _ D.i1z).trans q
    · exact st2.1.at fun o q => (sb.2 _ D.i2z).trans q
    · have hlt : c < s.heap.objs.size := by
        have e' : c = z ∨ c = TI ∨ c = TO ∨ c = i1 ∨ c = i2 := by simpa using hcm
        rcases e' with q | q | q | q | q
        · rw [q]; exact hzl
        · rw [q]; exact Heap.lt_size hTI
        · rw [q]; exact Heap.lt_size hTO
        · rw [q]; obtain ⟨_, e1, _⟩ := h1; exact Heap.lt_size e1
        · rw [q]; obtain ⟨_, e2, _⟩ := h2; exact Heap.lt_size e2
      rw [upd_ne (Nat.ne_of_lt hlt)]
      exact (hf c hcm).1
  done := by
    intro X hP hw hK hc i pins s σ H E I hf st hg
    subst hP hw hK
    obtain ⟨hz, hTI, ⟨x0, y0, hTO⟩, h1, h2⟩ := st
    obtain ⟨xs, ys, hqx, hqy, l1, l2⟩ := hg
    obtain ⟨its, rv, p, _⟩ := I.list hqx
    obtain ⟨its2, rv2, p2, _⟩ := I.tuple hqy
    have m1 := rv.length
    have m2 := rv2.length
    have n1 : its.toArray.size = i := by simp; omega
    have n2 : its2.toArray.size = i := by simp; omega
    exact PySem.wpAny_pyNext_zipD2_end (sep2 D) (Draws.list (A := X.A.in1) (I.ok.hd hc) i1 a D.l1i1 its.toArray) (Draws.tuple (A := X.A.in1) (I.ok.hd hc) i2 b D.l2i2 its2.toArray) hz hTI hTO ⟨h1, p.isList⟩ ⟨h2, p2⟩ (Nat.le_of_eq n1.symm) (Nat.le_of_eq n2.symm) (.inl n1.symm) fun h' tk hk => ⟨rfl, I.turnedL (t' := tk) (ch := [z, TI, TO, i1, i2]) (fun c o hb q =>
      hk c o (fun q' => hb (by simp [q'])) (fun q' => hb (by simp [q'])) (fun q' => hb (by simp [q'])) (fun q' => hb (by simp [q'])) q) hf⟩
  self := fun A i s Q E st h => wpAny_pyIter_zip st.1 h
def iZipM (K : PySem.W.Frag) (ta : TA) : TI := fun σ H R => ta σ H fun vs H1 => ∃ a b xs ys, vs = [.ref a, .ref b] ∧ SqL K H1 a xs ∧ SqT K H1 b ys ∧ R (ItzM K a b) H1
theorem pi_zipM {X : Cx} {e e2 : Expr} {ta : TA} {p pos tpos : Pos} {elts : List Expr} {kk : Nat} (hg : Gl X "zip") (hm : X.mg "zip" = none) (ha : PA X [e, e2] ta)
    (hs : starEach [e, e2] X.env = (false, eval e X.env) :: starEach [e2] X.env := by rfl) (hpl : (backTo pos (starEach [e2] X.env)).any (·.1) = false := by rfl) :
    PI X (.Tuple elts kk tpos) (.Call (.Name "zip" p) [e, e2] [] pos) (iZipM X.K ta) := by
  refine ⟨fun pins s σ H R I h => ?_⟩
  refine Call_ (ld_blt I hg hm PyProof.Rows.boot_zip (PyProof.Rows.callWith_type1 (thn (ha.run pos pins s σ H _ I h) fun us s1 ⟨vs, H1, I1, r1, q1⟩ => ?_) hs hpl))
  obtain ⟨a, b, xs, ys, ex, hqx, hqy, q⟩ := q1
  subst ex
  cases r1 with
  | cons r rr =>
    cases rr with
    | cons r' rr =>
      cases rr
      cases r
      cases r'
      have fresh5 : ∀ c, c ∈ [s1.heap.objs.size + 4, s1.heap.objs.size + 2, s1.heap.objs.size + 3, s1.heap.objs.size, s1.heap.objs.size + 1] → FpOk X pins H1 c := fun c hcm => by
        have e' : c = s1.heap.objs.size + 4 ∨ c = s1.heap.objs.size + 2 ∨ c = s1.heap.objs.size + 3 ∨ c = s1.heap.objs.size ∨ c = s1.heap.objs.size + 1 := by simpa using hcm
        have hle : s1.heap.objs.size ≤ c := by
          rcases e' with z | z | z | z | z
          · rw [z]; exact Nat.le_add_right _ _
          · rw [z]; exact Nat.le_add_right _ _
          · rw [z]; exact Nat.le_add_right _ _
          · rw [z]; exact Nat.le_refl _
          · rw [z]; exact Nat.le_add_right _ _
        exact I1.fpOk hle (I1.hok.fresh hle)
      obtain ⟨its, rv, p1, _⟩ := I1.list hqx
      obtain ⟨its2, rv2, p2, _⟩ := I1.tuple hqy
      obtain ⟨o2, ho2, _⟩ := id p2
      refine call_zipM p1.isList (show s1.heap.IsTuple b its2.toArray from p2) fun h' hz hTI hTO h1 h2 hsz hk => wpAny_pyIter_zip hz ?_
      have I2 : Inv X pins σ H1 { s1 with heap := h' } := I1.kept (t' := s1.toks) hk
      exact ⟨s1.heap.objs.size + 4, [s1.heap.objs.size + 4, s1.heap.objs.size + 2, s1.heap.objs.size + 3, s1.heap.objs.size, s1.heap.objs.size + 1], _, _, H1, rfl, I2, turn_zipM (PySem.W.ktu_apart s1.heap.objs.size a b p1.lt (Heap.lt_size ho2)), ⟨hz, hTI, ⟨_, _, hTO⟩, h1, h2⟩, fresh5, q⟩
theorem for_zipM {K : PySem.W.Frag} {a b : Addr} {xs ys : List V} {g : TG} {tb : TS} {D : Ends} {σ : L2.St} {H : Hp} (hl : xs.length = ys.length) (Pv : Nat → L2.St → Hp → Prop) (h0 : Pv 0 σ H) (hq : ∀ i σ H, Pv i σ H → SqL K H a xs ∧ SqT K H b ys)
    (hs : ∀ (i : Nat) (x y : V) (T : Addr) (σ : L2.St) (H : Hp), xs[i]? = some x → ys[i]? = some y → Pv i σ H → H T = none → g (.ref T) σ (upd H T (.tup [x, y])) fun σ2 H2 => tb { D with nx := Pv (i + 1), ct := Pv (i + 1), bk := D.nx } σ2 H2) (hd : ∀ σ H, Pv xs.length σ H → D.nx σ H) :
    ∃ W : Nat → Nat → L2.St → Hp → Prop, (∃ m, W 0 m σ H) ∧ ∀ i m σ H, W i m σ H →
      ((ItzM K a b).stop i H ∧ D.nx σ H) ∨ ((ItzM K a b).go i H ∧ ∃ N : L2.St → Hp → Prop, (∀ σ' H', N σ' H' → ∃ m', m' < m ∧ W (i + 1) m' σ' H') ∧ ∀ v H', (ItzM K a b).yld i H v H' → g v σ H' fun σ2 H2 => tb { D with nx := N, ct := N, bk := D.nx } σ2 H2) := by
  refine ⟨fun i m σ H => m = xs.length - i ∧ i ≤ xs.length ∧ Pv i σ H, ⟨xs.length, rfl, Nat.zero_le _, h0⟩, ?_⟩
  rintro i m σ H ⟨rfl, hi, p⟩
  obtain ⟨qx, qy⟩ := hq i σ H p
  by_cases hlt : i < xs.length
  · have hx : xs[i]? = some xs[i] := List.getElem?_eq_getElem hlt
    have hlt2 : i < ys.length := by omega
    have hy : ys[i]? = some ys[i] := List.getElem?_eq_getElem hlt2
    refine .inr ⟨⟨xs, ys, _, _, qx, qy, hx, hy⟩, Pv (i + 1), fun σ' H' p' => ⟨xs.length - (i + 1), by omega, rfl, hlt, p'⟩, fun v H' y => ?_⟩
    obtain ⟨T, x', y', rfl, hT, rfl, f1, f2⟩ := y
    exact hs i x' y' T σ H (f1 xs qx) (f2 ys qy) p hT
  · have e : i = xs.length := by omega
    subst e
    exact .inl ⟨⟨xs, ys, qx, qy, rfl, hl.symm⟩, hd σ H p⟩
end XZ
namespace XQ
open PySem PySem.Spec PyProof.Rows L2 CwR PySem.StrLaws
section
variable {P : Program} {w : World} {K : PySem.W.Frag} {mg : Str → Option Value} {base : Heap}
end
section
variable {X : Cx}
end
end XQ
namespace My
open PySem L2 SX XT XS XE XD XL XZ
def top (i : Nat) : Stmt := PySem.Challenge.pw_livequill_k21_maps_by_methods.main.body.getD i (.Pass ⟨0, 0, 0, 0⟩)
abbrev s_tagged : Stmt := top 10
theorem sc_tagged : FnScope ["key"] ["key"] (defScope s_tagged) := ⟨rfl, rfl, rfl, by decide +kernel, rfl, by decide +kernel, by decide +kernel⟩
abbrev s_kind_of : Stmt := top 14
theorem sc_kind_of : FnScope ["store", "value"] ["store", "value"] (defScope s_kind_of) := ⟨rfl, rfl, rfl, by decide +kernel, rfl, by decide +kernel, by decide +kernel⟩
abbrev s_kind_of_thing : Stmt := top 15
theorem sc_kind_of_thing : FnScope ["thing"] ["thing"] (defScope s_kind_of_thing) := ⟨rfl, rfl, rfl, by decide +kernel, rfl, by decide +kernel, by decide +kernel⟩
abbrev s_is_key : Stmt := top 17
theorem sc_is_key : FnScope ["value"] ["value"] (defScope s_is_key) := ⟨rfl, rfl, rfl, by decide +kernel, rfl, by decide +kernel, by decide +kernel⟩
abbrev s_check_size : Stmt := top 21
theorem sc_check_size : FnScope ["size"] ["size"] (defScope s_check_size) := ⟨rfl, rfl, rfl, by decide +kernel, rfl, by decide +kernel, by decide +kernel⟩
abbrev s_check_count : Stmt := top 27
theorem sc_check_count : FnScope ["values", "wanted"] ["values", "wanted"] (defScope s_check_count) := ⟨rfl, rfl, rfl, by decide +kernel, rfl, by decide +kernel, by decide +kernel⟩
abbrev s_check_arguments : Stmt := top 28
theorem sc_check_arguments : FnScope ["store", "values", "kinds", "value", "kind"] ["store", "values", "kinds"] (defScope s_check_arguments) := ⟨rfl, rfl, rfl, by decide +kernel, rfl, by decide +kernel, by decide +kernel⟩
abbrev s_check_kind : Stmt := top 29
theorem sc_check_kind : FnScope ["store", "value", "kind"] ["store", "value", "kind"] (defScope s_check_kind) := ⟨rfl, rfl, rfl, by decide +kernel, rfl, by decide +kernel, by decide +kernel⟩
abbrev s_get_item : Stmt := top 33
theorem sc_get_item : FnScope ["store", "x", "i", "kind", "held"] ["store", "x", "i"] (defScope s_get_item) := ⟨rfl, rfl, rfl, by decide +kernel, rfl, by decide +kernel, by decide +kernel⟩
abbrev s_value_at : Stmt := top 34
theorem sc_value_at : FnScope ["table", "key"] ["table", "key"] (defScope s_value_at) := ⟨rfl, rfl, rfl, by decide +kernel, rfl, by decide +kernel, by decide +kernel⟩
abbrev s_set_item : Stmt := top 35
theorem sc_set_item : FnScope ["store", "x", "i", "value", "kind", "held"] ["store", "x", "i", "value"] (defScope s_set_item) := ⟨rfl, rfl, rfl, by decide +kernel, rfl, by decide +kernel, by decide +kernel⟩
abbrev s_check_key : Stmt := top 37
theorem sc_check_key : FnScope ["key"] ["key"] (defScope s_check_key) := ⟨rfl, rfl, rfl, by decide +kernel, rfl, by decide +kernel, by decide +kernel⟩
abbrev s_put_entry : Stmt := top 38
theorem sc_put_entry : FnScope ["table", "key", "value"] ["table", "key", "value"] (defScope s_put_entry) := ⟨rfl, rfl, rfl, by decide +kernel, rfl, by decide +kernel, by decide +kernel⟩
abbrev s_make_list : Stmt := top 39
theorem sc_make_list : FnScope ["store", "values"] ["store", "values"] (defScope s_make_list) := ⟨rfl, rfl, rfl, by decide +kernel, rfl, by decide +kernel, by decide +kernel⟩
abbrev s_make_map : Stmt := top 40
theorem sc_make_map : FnScope ["store", "pairs", "table", "key", "value"] ["store", "pairs"] (defScope s_make_map) := ⟨rfl, rfl, rfl, by decide +kernel, rfl, by decide +kernel, by decide +kernel⟩
abbrev s_make_pairs : Stmt := top 78
theorem sc_make_pairs : FnScope ["store", "pairs", "pair"] ["store", "pairs"] (defScope s_make_pairs) := ⟨rfl, rfl, rfl, by decide +kernel, rfl, by decide +kernel, by decide +kernel⟩
abbrev s_has : Stmt := top 81
theorem sc_has : FnScope ["store", "table", "key"] ["store", "table", "key"] (defScope s_has) := ⟨rfl, rfl, rfl, by decide +kernel, rfl, by decide +kernel, by decide +kernel⟩
abbrev s_keys_of : Stmt := top 84
theorem sc_keys_of : FnScope ["store", "table", "key", "_"] ["store", "table"] (defScope s_keys_of) := ⟨rfl, rfl, rfl, by decide +kernel, rfl, by decide +kernel, by decide +kernel⟩
abbrev s_values_of : Stmt := top 85
theorem sc_values_of : FnScope ["store", "table", "_", "value"] ["store", "table"] (defScope s_values_of) := ⟨rfl, rfl, rfl, by decide +kernel, rfl, by decide +kernel, by decide +kernel⟩
abbrev s_entries : Stmt := top 86
theorem sc_entries : FnScope ["store", "table"] ["store", "table"] (defScope s_entries) := ⟨rfl, rfl, rfl, by decide +kernel, rfl, by decide +kernel, by decide +kernel⟩
abbrev s_get : Stmt := top 87
theorem sc_get : FnScope ["store", "table", "key", "other"] ["store", "table", "key", "other"] (defScope s_get) := ⟨rfl, rfl, rfl, by decide +kernel, rfl, by decide +kernel, by decide +kernel⟩
abbrev s_merge : Stmt := top 88
theorem sc_merge : FnScope ["store", "table", "other", "pairs", "new", "key", "value", "_"] ["store", "table", "other"] (defScope s_merge) := ⟨rfl, rfl, rfl, by decide +kernel, rfl, by decide +kernel, by decide +kernel⟩
abbrev s_clear : Stmt := top 91
theorem sc_clear : FnScope ["store", "table", "key", "_"] ["store", "table"] (defScope s_clear) := ⟨rfl, rfl, rfl, by decide +kernel, rfl, by decide +kernel, by decide +kernel⟩
abbrev s_call_method : Stmt := top 119
theorem sc_call_method : FnScope ["store", "x", "name", "values", "method", "action", "kinds", "owner"] ["store", "x", "name", "values"] (defScope s_call_method) := ⟨rfl, rfl, rfl, by decide +kernel, rfl, by decide +kernel, by decide +kernel⟩
abbrev s_method_for : Stmt := top 120
theorem sc_method_for : FnScope ["owner", "name"] ["owner", "name"] (defScope s_method_for) := ⟨rfl, rfl, rfl, by decide +kernel, rfl, by decide +kernel, by decide +kernel⟩
abbrev s_law_cell : Stmt := top 124
theorem sc_law_cell : FnScope ["script", "k"] ["script", "k"] (defScope s_law_cell) := ⟨rfl, rfl, rfl, by decide +kernel, rfl, by decide +kernel, by decide +kernel⟩
abbrev s_law_begin : Stmt := top 125
theorem sc_law_begin : FnScope ["script", "k"] ["script", "k"] (defScope s_law_begin) := ⟨rfl, rfl, rfl, by decide +kernel, rfl, by decide +kernel, by decide +kernel⟩
abbrev s_law_draw : Stmt := top 126
theorem sc_law_draw : FnScope ["state", "many", "k", "cell", "prime", "mixed", "digit"] ["state", "many"] (defScope s_law_draw) := ⟨rfl, rfl, rfl, by decide +kernel, rfl, by decide +kernel, by decide +kernel⟩
abbrev s_law_pick : Stmt := top 127
theorem sc_law_pick : FnScope ["state", "row"] ["state", "row"] (defScope s_law_pick) := ⟨rfl, rfl, rfl, by decide +kernel, rfl, by decide +kernel, by decide +kernel⟩
abbrev s_law_key : Stmt := top 128
theorem sc_law_key : FnScope ["state"] ["state"] (defScope s_law_key) := ⟨rfl, rfl, rfl, by decide +kernel, rfl, by decide +kernel, by decide +kernel⟩
abbrev s_law_same : Stmt := top 129
theorem sc_law_same : FnScope ["x", "y"] ["x", "y"] (defScope s_law_same) := ⟨rfl, rfl, rfl, by decide +kernel, rfl, by decide +kernel, by decide +kernel⟩
abbrev s_law_at : Stmt := top 130
theorem sc_law_at : FnScope ["rows", "key", "k"] ["rows", "key"] (defScope s_law_at) := ⟨rfl, rfl, rfl, by decide +kernel, rfl, by decide +kernel, by decide +kernel⟩
abbrev s_law_put : Stmt := top 131
theorem sc_law_put : FnScope ["rows", "key", "value", "at"] ["rows", "key", "value"] (defScope s_law_put) := ⟨rfl, rfl, rfl, by decide +kernel, rfl, by decide +kernel, by decide +kernel⟩
abbrev s_law_pairs : Stmt := top 132
theorem sc_law_pairs : FnScope ["told", "rows", "k"] ["told", "rows"] (defScope s_law_pairs) := ⟨rfl, rfl, rfl, by decide +kernel, rfl, by decide +kernel, by decide +kernel⟩
abbrev s_law_try : Stmt := top 133
theorem sc_law_try : FnScope ["store", "deed", "name", "values", "e"] ["store", "deed", "name", "values"] (defScope s_law_try) := ⟨rfl, rfl, rfl, by decide +kernel, rfl, by decide +kernel, by decide +kernel⟩
abbrev s_law_is : Stmt := top 134
theorem sc_law_is : FnScope ["told", "value"] ["told", "value"] (defScope s_law_is) := ⟨rfl, rfl, rfl, by decide +kernel, rfl, by decide +kernel, by decide +kernel⟩
abbrev s_law_taken : Stmt := top 135
theorem sc_law_taken : FnScope ["store", "rows", "key", "at", "told", "value", "left"] ["store", "rows", "key"] (defScope s_law_taken) := ⟨rfl, rfl, rfl, by decide +kernel, rfl, by decide +kernel, by decide +kernel⟩
abbrev s_law_set : Stmt := top 136
theorem sc_law_set : FnScope ["store", "rows", "key", "value", "told"] ["store", "rows", "key", "value"] (defScope s_law_set) := ⟨rfl, rfl, rfl, by decide +kernel, rfl, by decide +kernel, by decide +kernel⟩
abbrev s_law_read : Stmt := top 137
theorem sc_law_read : FnScope ["store", "rows", "key", "value", "at", "told", "other", "there"] ["store", "rows", "key", "value"] (defScope s_law_read) := ⟨rfl, rfl, rfl, by decide +kernel, rfl, by decide +kernel, by decide +kernel⟩
abbrev s_law_listed : Stmt := top 138
theorem sc_law_listed : FnScope ["store", "rows", "keys", "values", "pairs", "first", "second", "third", "k", "both"] ["store", "rows"] (defScope s_law_listed) := ⟨rfl, rfl, rfl, by decide +kernel, rfl, by decide +kernel, by decide +kernel⟩
abbrev s_law_merged : Stmt := top 139
theorem sc_law_merged : FnScope ["store", "rows", "state", "others", "k", "ref", "fresh", "told", "row"] ["store", "rows", "state"] (defScope s_law_merged) := ⟨rfl, rfl, rfl, by decide +kernel, rfl, by decide +kernel, by decide +kernel⟩
abbrev s_law_step : Stmt := top 140
theorem sc_law_step : FnScope ["store", "rows", "state", "kind", "key", "value", "told", "bad", "due", "name"] ["store", "rows", "state"] (defScope s_law_step) := ⟨rfl, rfl, rfl, by decide +kernel, rfl, by decide +kernel, by decide +kernel⟩
abbrev s_law : Stmt := top 141
theorem sc_law : FnScope ["script", "state", "store", "rows", "k"] ["script"] (defScope s_law) := ⟨rfl, rfl, rfl, by decide +kernel, rfl, by decide +kernel, by decide +kernel⟩
abbrev s_take_out_maps : Stmt := top 82
theorem sc_take_out_maps : FnScope ["store", "table", "key", "value"] ["store", "table", "key"] (defScope s_take_out_maps) := ⟨rfl, rfl, rfl, by decide +kernel, rfl, by decide +kernel, by decide +kernel⟩
abbrev s_copy_maps : Stmt := top 89
theorem sc_copy_maps : FnScope ["store", "table"] ["store", "table"] (defScope s_copy_maps) := ⟨rfl, rfl, rfl, by decide +kernel, rfl, by decide +kernel, by decide +kernel⟩
abbrev s_length_maps : Stmt := top 92
theorem sc_length_maps : FnScope ["store", "table"] ["store", "table"] (defScope s_length_maps) := ⟨rfl, rfl, rfl, by decide +kernel, rfl, by decide +kernel, by decide +kernel⟩
abbrev s_Ref_init : Stmt := inClass (top 5) 0
theorem sc_Ref_init : FnScope ["self", "number"] ["self", "number"] (defScope s_Ref_init) := ⟨rfl, rfl, rfl, by decide +kernel, rfl, by decide +kernel, by decide +kernel⟩
abbrev s_Ref_eq : Stmt := inClass (top 5) 1
theorem sc_Ref_eq : FnScope ["self", "other"] ["self", "other"] (defScope s_Ref_eq) := ⟨rfl, rfl, rfl, by decide +kernel, rfl, by decide +kernel, by decide +kernel⟩
abbrev s_Builtin_init : Stmt := inClass (top 6) 0
theorem sc_Builtin_init : FnScope ["self", "name"] ["self", "name"] (defScope s_Builtin_init) := ⟨rfl, rfl, rfl, by decide +kernel, rfl, by decide +kernel, by decide +kernel⟩
abbrev s_Builtin_eq : Stmt := inClass (top 6) 1
theorem sc_Builtin_eq : FnScope ["self", "other"] ["self", "other"] (defScope s_Builtin_eq) := ⟨rfl, rfl, rfl, by decide +kernel, rfl, by decide +kernel, by decide +kernel⟩
abbrev s_Parts_init : Stmt := inClass (top 8) 0
theorem sc_Parts_init : FnScope ["self", "held"] ["self", "held"] (defScope s_Parts_init) := ⟨rfl, rfl, rfl, by decide +kernel, rfl, by decide +kernel, by decide +kernel⟩
abbrev s_Table_init : Stmt := inClass (top 9) 0
theorem sc_Table_init : FnScope ["self"] ["self"] (defScope s_Table_init) := ⟨rfl, rfl, rfl, by decide +kernel, rfl, by decide +kernel, by decide +kernel⟩
abbrev s_Table_has : Stmt := inClass (top 9) 1
theorem sc_Table_has : FnScope ["self", "key"] ["self", "key"] (defScope s_Table_has) := ⟨rfl, rfl, rfl, by decide +kernel, rfl, by decide +kernel, by decide +kernel⟩
abbrev s_Table_value_of : Stmt := inClass (top 9) 2
theorem sc_Table_value_of : FnScope ["self", "key"] ["self", "key"] (defScope s_Table_value_of) := ⟨rfl, rfl, rfl, by decide +kernel, rfl, by decide +kernel, by decide +kernel⟩
abbrev s_Table_put : Stmt := inClass (top 9) 3
theorem sc_Table_put : FnScope ["self", "key", "value"] ["self", "key", "value"] (defScope s_Table_put) := ⟨rfl, rfl, rfl, by decide +kernel, rfl, by decide +kernel, by decide +kernel⟩
abbrev s_Table_take_out : Stmt := inClass (top 9) 4
theorem sc_Table_take_out : FnScope ["self", "key"] ["self", "key"] (defScope s_Table_take_out) := ⟨rfl, rfl, rfl, by decide +kernel, rfl, by decide +kernel, by decide +kernel⟩
abbrev s_Table_pairs : Stmt := inClass (top 9) 5
theorem sc_Table_pairs : FnScope ["self"] ["self"] (defScope s_Table_pairs) := ⟨rfl, rfl, rfl, by decide +kernel, rfl, by decide +kernel, by decide +kernel⟩
abbrev s_Table_many : Stmt := inClass (top 9) 6
theorem sc_Table_many : FnScope ["self"] ["self"] (defScope s_Table_many) := ⟨rfl, rfl, rfl, by decide +kernel, rfl, by decide +kernel, by decide +kernel⟩
abbrev s_Kin_init : Stmt := inClass (top 12) 0
theorem sc_Kin_init : FnScope ["self", "name", "parent"] ["self", "name", "parent"] (defScope s_Kin_init) := ⟨rfl, rfl, rfl, by decide +kernel, rfl, by decide +kernel, by decide +kernel⟩
abbrev s_Store_init : Stmt := inClass (top 122) 0
theorem sc_Store_init : FnScope ["self", "lines"] ["self", "lines"] (defScope s_Store_init) := ⟨rfl, rfl, rfl, by decide +kernel, rfl, by decide +kernel, by decide +kernel⟩
abbrev s_Store_make : Stmt := inClass (top 122) 1
theorem sc_Store_make : FnScope ["self", "thing"] ["self", "thing"] (defScope s_Store_make) := ⟨rfl, rfl, rfl, by decide +kernel, rfl, by decide +kernel, by decide +kernel⟩
abbrev s_Store_at : Stmt := inClass (top 122) 2
theorem sc_Store_at : FnScope ["self", "ref"] ["self", "ref"] (defScope s_Store_at) := ⟨rfl, rfl, rfl, by decide +kernel, rfl, by decide +kernel, by decide +kernel⟩
abbrev sx_ScriptError : Stmt := inClass (top 3) 0
/-- where the classes stand -/
structure Ads where
  Ref : Addr
  Builtin : Addr
  Parts : Addr
  Table : Addr
  Instance : Addr
  Kin : Addr
  Store : Addr
  LivequillError : Addr
  ScriptError : Addr
structure CF (K : PySem.W.Frag) (mg : Str → Option Value) (C : Addr) (nm : Str) : Prop where
  cl : Cls K C
  g : mg nm = some (.ref C)
  ty : ∀ {H : Hp} {a dx : Addr} {fs : List (Str × V)}, H a = some (.ins C dx fs) → TyX K H (.ref a) (.ref C)
structure Fx (K : PySem.W.Frag) (mg : Str → Option Value) (nm : Str) (st : Stmt) (ps : List Str) where
  f : Addr
  fd : FuncData
  F : Fun K nm nm st f fd
  b : Binds K fd ps []
  g : mg nm = some (.ref f)
structure Ax (K : PySem.W.Frag) (mg : Str → Option Value) (gn nm : Str) (st : Stmt) (ps : List Str) where
  f : Addr
  fd : FuncData
  F : Fun K nm nm st f fd
  b : Binds K fd ps []
  g : mg gn = some (.ref f)
structure Mx (K : PySem.W.Frag) (C : Addr) (nm qual : Str) (st : Stmt) (ps : List Str) where
  f : Addr
  fd : FuncData
  F : Fun K nm qual st f fd
  b : Binds K fd ps []
  m : Meth K C nm f
structure Ix (K : PySem.W.Frag) (C : Addr) (qual : Str) (st : Stmt) (ps : List Str) where
  f : Addr
  fd : FuncData
  F : Fun K "__init__" qual st f fd
  b : Binds K fd ps []
  m : Mk K C f
structure OwnEq (K : PySem.W.Frag) (C f : Addr) : Prop where
  at_ : PySem.W.findIn K (.ref C) "__eq__" = some (some (.ref f))
  fn : PySem.W.isFn K (.ref f) = true
structure Qx (K : PySem.W.Frag) (C : Addr) (qual : Str) (st : Stmt) (ps : List Str) where
  f : Addr
  fd : FuncData
  F : Fun K "__eq__" qual st f fd
  b : Binds K fd ps []
  m : OwnEq K C f
structure Px (K : PySem.W.Frag) (C : Addr) (nm qual : Str) (st : Stmt) (ps : List Str) where
  f : Addr
  p : Addr
  fd : FuncData
  F : Fun K nm qual st f fd
  b : Binds K fd ps []
  m : PropOf K C nm p f
structure Tx (K : PySem.W.Frag) (mg : Str → Option Value) (nm : Str) (vs : List V) where
  a : Addr
  g : mg nm = some (.ref a)
  s : ∀ H, SqT K H a vs
structure Xx (P : Program) (K : PySem.W.Frag) (mg : Str → Option Value) (C : Addr) (nm n1 n2 : Str) where
  f : Addr
  fd : FuncData
  T : Exn P K mg C f n1 n2
  F : ∀ w base, FnOk P w K mg base CX0 1 f fd ["self", n1, n2] (spTwo C n1 n2)
  b : Binds K fd ["self", n1, n2] []
  g : mg nm = some (.ref C)
  ec : ExcC K C
structure Gx (mg : Str → Option Value) (C : Addr) (nm : Str) : Prop where
  g : mg nm = some (.ref C)
/-- what the written part says -/
structure Lib (P : Program) (K : PySem.W.Frag) (mg : Str → Option Value) (A : Ads) where
  z_range : mg "range" = none
  z_len : mg "len" = none
  z_int : mg "int" = none
  z_str : mg "str" = none
  z_bool : mg "bool" = none
  z_isinstance : mg "isinstance" = none
  z_list : mg "list" = none
  z_tuple : mg "tuple" = none
  z_abs : mg "abs" = none
  z_min : mg "min" = none
  z_max : mg "max" = none
  z_zip : mg "zip" = none
  c_Ref : CF K mg A.Ref "Ref"
  n_Ref_number : PySem.W.findIn K (.ref A.Ref) "number" = some none
  c_Builtin : CF K mg A.Builtin "Builtin"
  n_Builtin_name : PySem.W.findIn K (.ref A.Builtin) "name" = some none
  c_Parts : CF K mg A.Parts "Parts"
  n_Parts_held : PySem.W.findIn K (.ref A.Parts) "held" = some none
  c_Table : CF K mg A.Table "Table"
  n_Table__entries : PySem.W.findIn K (.ref A.Table) "_entries" = some none
  c_Instance : CF K mg A.Instance "Instance"
  c_Kin : CF K mg A.Kin "Kin"
  n_Kin_name : PySem.W.findIn K (.ref A.Kin) "name" = some none
  n_Kin_parent : PySem.W.findIn K (.ref A.Kin) "parent" = some none
  n_Kin_methods : PySem.W.findIn K (.ref A.Kin) "methods" = some none
  c_Store : CF K mg A.Store "Store"
  n_Store_things : PySem.W.findIn K (.ref A.Store) "things" = some none
  n_Store_output : PySem.W.findIn K (.ref A.Store) "output" = some none
  n_Store_lines : PySem.W.findIn K (.ref A.Store) "lines" = some none
  n_Store_taken : PySem.W.findIn K (.ref A.Store) "taken" = some none
  x_LivequillError : Gx mg A.LivequillError "LivequillError"
  x_ScriptError : Xx P K mg A.ScriptError "ScriptError" "kind" "message"
  k_ScriptError_LivequillError : PySem.W.kitOne K (.ref A.ScriptError) (.ref A.LivequillError) = some true
  k_Ref_Builtin : PySem.W.kitOne K (.ref A.Ref) (.ref A.Builtin) = some false
  k_Ref_bool : PySem.W.kitOne K (.ref A.Ref) (.type "bool") = some false
  k_Ref_int : PySem.W.kitOne K (.ref A.Ref) (.type "int") = some false
  k_Ref_str : PySem.W.kitOne K (.ref A.Ref) (.type "str") = some false
  k_Builtin_Ref : PySem.W.kitOne K (.ref A.Builtin) (.ref A.Ref) = some false
  k_Builtin_bool : PySem.W.kitOne K (.ref A.Builtin) (.type "bool") = some false
  k_Builtin_int : PySem.W.kitOne K (.ref A.Builtin) (.type "int") = some false
  k_Builtin_str : PySem.W.kitOne K (.ref A.Builtin) (.type "str") = some false
  k_Parts_Ref : PySem.W.kitOne K (.ref A.Parts) (.ref A.Ref) = some false
  k_Parts_Table : PySem.W.kitOne K (.ref A.Parts) (.ref A.Table) = some false
  k_Parts_Instance : PySem.W.kitOne K (.ref A.Parts) (.ref A.Instance) = some false
  k_Parts_Kin : PySem.W.kitOne K (.ref A.Parts) (.ref A.Kin) = some false
  k_Parts_Builtin : PySem.W.kitOne K (.ref A.Parts) (.ref A.Builtin) = some false
  k_Table_Ref : PySem.W.kitOne K (.ref A.Table) (.ref A.Ref) = some false
  k_Table_Parts : PySem.W.kitOne K (.ref A.Table) (.ref A.Parts) = some false
  k_Table_Instance : PySem.W.kitOne K (.ref A.Table) (.ref A.Instance) = some false
  k_Table_Kin : PySem.W.kitOne K (.ref A.Table) (.ref A.Kin) = some false
  k_Table_Builtin : PySem.W.kitOne K (.ref A.Table) (.ref A.Builtin) = some false
  k_Instance_Ref : PySem.W.kitOne K (.ref A.Instance) (.ref A.Ref) = some false
  k_Instance_Parts : PySem.W.kitOne K (.ref A.Instance) (.ref A.Parts) = some false
  k_Instance_Table : PySem.W.kitOne K (.ref A.Instance) (.ref A.Table) = some false
  k_Instance_Kin : PySem.W.kitOne K (.ref A.Instance) (.ref A.Kin) = some false
  k_Instance_Builtin : PySem.W.kitOne K (.ref A.Instance) (.ref A.Builtin) = some false
  k_Kin_Ref : PySem.W.kitOne K (.ref A.Kin) (.ref A.Ref) = some false
  k_Kin_Parts : PySem.W.kitOne K (.ref A.Kin) (.ref A.Parts) = some false
  k_Kin_Table : PySem.W.kitOne K (.ref A.Kin) (.ref A.Table) = some false
  k_Kin_Instance : PySem.W.kitOne K (.ref A.Kin) (.ref A.Instance) = some false
  k_Kin_Builtin : PySem.W.kitOne K (.ref A.Kin) (.ref A.Builtin) = some false
  k_Store_Ref : PySem.W.kitOne K (.ref A.Store) (.ref A.Ref) = some false
  k_Store_Builtin : PySem.W.kitOne K (.ref A.Store) (.ref A.Builtin) = some false
  k_NoneType_Ref : PySem.W.kitOne K (.type "NoneType") (.ref A.Ref) = some false
  k_NoneType_Builtin : PySem.W.kitOne K (.type "NoneType") (.ref A.Builtin) = some false
  k_bool_Ref : PySem.W.kitOne K (.type "bool") (.ref A.Ref) = some false
  k_bool_Builtin : PySem.W.kitOne K (.type "bool") (.ref A.Builtin) = some false
  k_int_Ref : PySem.W.kitOne K (.type "int") (.ref A.Ref) = some false
  k_int_Builtin : PySem.W.kitOne K (.type "int") (.ref A.Builtin) = some false
  k_str_Ref : PySem.W.kitOne K (.type "str") (.ref A.Ref) = some false
  k_str_Builtin : PySem.W.kitOne K (.type "str") (.ref A.Builtin) = some false
  nf_Ref_NoneType : PySem.W.notFirst K A.Ref (.type "NoneType") = true
  su_Ref_NoneType : PySem.W.subIn K (.ref A.Ref) (.type "NoneType") = some false
  nf_Ref_int : PySem.W.notFirst K A.Ref (.type "int") = true
  su_Ref_int : PySem.W.subIn K (.ref A.Ref) (.type "int") = some false
  nf_Ref_str : PySem.W.notFirst K A.Ref (.type "str") = true
  su_Ref_str : PySem.W.subIn K (.ref A.Ref) (.type "str") = some false
  nf_Ref_Builtin : PySem.W.notFirst K A.Ref (.ref A.Builtin) = true
  nf_Builtin_NoneType : PySem.W.notFirst K A.Builtin (.type "NoneType") = true
  su_Builtin_NoneType : PySem.W.subIn K (.ref A.Builtin) (.type "NoneType") = some false
  nf_Builtin_int : PySem.W.notFirst K A.Builtin (.type "int") = true
  su_Builtin_int : PySem.W.subIn K (.ref A.Builtin) (.type "int") = some false
  nf_Builtin_str : PySem.W.notFirst K A.Builtin (.type "str") = true
  su_Builtin_str : PySem.W.subIn K (.ref A.Builtin) (.type "str") = some false
  nf_Builtin_Ref : PySem.W.notFirst K A.Builtin (.ref A.Ref) = true
  v_MOST_HELD : ∃ t, mg "MOST_HELD" = some (.int 1000 t)
  tagged : Fx K mg "tagged" s_tagged ["key"]
  kind_of : Fx K mg "kind_of" s_kind_of ["store", "value"]
  kind_of_thing : Fx K mg "kind_of_thing" s_kind_of_thing ["thing"]
  is_key : Fx K mg "is_key" s_is_key ["value"]
  check_size : Fx K mg "check_size" s_check_size ["size"]
  check_count : Fx K mg "check_count" s_check_count ["values", "wanted"]
  check_arguments : Fx K mg "check_arguments" s_check_arguments ["store", "values", "kinds"]
  check_kind : Fx K mg "check_kind" s_check_kind ["store", "value", "kind"]
  get_item : Fx K mg "get_item" s_get_item ["store", "x", "i"]
  value_at : Fx K mg "value_at" s_value_at ["table", "key"]
  set_item : Fx K mg "set_item" s_set_item ["store", "x", "i", "value"]
  check_key : Fx K mg "check_key" s_check_key ["key"]
  put_entry : Fx K mg "put_entry" s_put_entry ["table", "key", "value"]
  make_list : Fx K mg "make_list" s_make_list ["store", "values"]
  make_map : Fx K mg "make_map" s_make_map ["store", "pairs"]
  make_pairs : Fx K mg "make_pairs" s_make_pairs ["store", "pairs"]
  has : Fx K mg "has" s_has ["store", "table", "key"]
  keys_of : Fx K mg "keys_of" s_keys_of ["store", "table"]
  values_of : Fx K mg "values_of" s_values_of ["store", "table"]
  entries : Fx K mg "entries" s_entries ["store", "table"]
  get : Fx K mg "get" s_get ["store", "table", "key", "other"]
  merge : Fx K mg "merge" s_merge ["store", "table", "other"]
  clear : Fx K mg "clear" s_clear ["store", "table"]
  call_method : Fx K mg "call_method" s_call_method ["store", "x", "name", "values"]
  method_for : Fx K mg "method_for" s_method_for ["owner", "name"]
  law_cell : Fx K mg "_law_cell" s_law_cell ["script", "k"]
  law_begin : Fx K mg "_law_begin" s_law_begin ["script", "k"]
  law_draw : Fx K mg "_law_draw" s_law_draw ["state", "many"]
  law_pick : Fx K mg "_law_pick" s_law_pick ["state", "row"]
  law_key : Fx K mg "_law_key" s_law_key ["state"]
  law_same : Fx K mg "_law_same" s_law_same ["x", "y"]
  law_at : Fx K mg "_law_at" s_law_at ["rows", "key"]
  law_put : Fx K mg "_law_put" s_law_put ["rows", "key", "value"]
  law_pairs : Fx K mg "_law_pairs" s_law_pairs ["told", "rows"]
  law_try : Fx K mg "_law_try" s_law_try ["store", "deed", "name", "values"]
  law_is : Fx K mg "_law_is" s_law_is ["told", "value"]
  law_taken : Fx K mg "_law_taken" s_law_taken ["store", "rows", "key"]
  law_set : Fx K mg "_law_set" s_law_set ["store", "rows", "key", "value"]
  law_read : Fx K mg "_law_read" s_law_read ["store", "rows", "key", "value"]
  law_listed : Fx K mg "_law_listed" s_law_listed ["store", "rows"]
  law_merged : Fx K mg "_law_merged" s_law_merged ["store", "rows", "state"]
  law_step : Fx K mg "_law_step" s_law_step ["store", "rows", "state"]
  take_out_maps : Ax K mg "take_out_maps" "take_out" s_take_out_maps ["store", "table", "key"]
  copy_maps : Ax K mg "copy_maps" "copy" s_copy_maps ["store", "table"]
  length_maps : Ax K mg "length_maps" "length" s_length_maps ["store", "table"]
  Ref_init : Ix K A.Ref "Ref.__init__" s_Ref_init ["self", "number"]
  Ref_eq : Qx K A.Ref "Ref.__eq__" s_Ref_eq ["self", "other"]
  Builtin_init : Ix K A.Builtin "Builtin.__init__" s_Builtin_init ["self", "name"]
  Builtin_eq : Qx K A.Builtin "Builtin.__eq__" s_Builtin_eq ["self", "other"]
  Parts_init : Ix K A.Parts "Parts.__init__" s_Parts_init ["self", "held"]
  Table_init : Ix K A.Table "Table.__init__" s_Table_init ["self"]
  Table_has : Mx K A.Table "has" "Table.has" s_Table_has ["self", "key"]
  Table_value_of : Mx K A.Table "value_of" "Table.value_of" s_Table_value_of ["self", "key"]
  Table_put : Mx K A.Table "put" "Table.put" s_Table_put ["self", "key", "value"]
  Table_take_out : Mx K A.Table "take_out" "Table.take_out" s_Table_take_out ["self", "key"]
  Table_pairs : Mx K A.Table "pairs" "Table.pairs" s_Table_pairs ["self"]
  Table_many : Px K A.Table "many" "Table.many" s_Table_many ["self"]
  Kin_init : Ix K A.Kin "Kin.__init__" s_Kin_init ["self", "name", "parent"]
  Store_init : Ix K A.Store "Store.__init__" s_Store_init ["self", "lines"]
  Store_make : Mx K A.Store "make" "Store.make" s_Store_make ["self", "thing"]
  Store_at : Mx K A.Store "at" "Store.at" s_Store_at ["self", "ref"]
end My
namespace My
open PySem L2 SX XT XS XE
open C8 (pss_cut tCut cutS_slice pe_gc)
def Keep (p : Addr) (H H' : Hp) : Prop := ∀ b o, H b = some o → b ≠ p → H' b = some o
theorem Same.keep {p : Addr} {H H' : Hp} (s : Same H H') : Keep p H H' := fun b o e _ => s b o e
theorem Keep.trans {p : Addr} {H H1 H2 : Hp} (a : Keep p H H1) (b : Keep p H1 H2) : Keep p H H2 := fun c o e n => b c o (a c o e n) n
theorem keep_upd {p : Addr} {H : Hp} {o : HO} : Keep p H (upd H p o) := fun b x e n => by
  rw [upd_ne n]
  exact e
theorem same_upd {H : Hp} {p : Addr} {o : HO} (h : H p = none) : Same H (upd H p o) := fun b x e => by
  rw [upd_ne (ne_of_none e h)]
  exact e
theorem lk_hit {k : Str} {v : V} {r : List (Str × V)} : ((k, v) :: r).lookup k = some v := by
  simp [List.lookup]
theorem ifF {b : Bool} {A B : Prop} (h : b = false) (q : B) : if b = true then A else B := by
  rw [h]
  exact iteF q
theorem ifT {b : Bool} {A B : Prop} (h : b = true) (q : A) : if b = true then A else B := by
  rw [h]
  exact iteT q
theorem ite_or {b : Bool} {A B : Prop} (h1 : b = true → A) (h2 : b = false → B) : if b = true then A else B := by
  cases b with
  | true => exact iteT (h1 rfl)
  | false => exact iteF (h2 rfl)
theorem lk_skip {k k' : Str} {v : V} {r : List (Str × V)} (h : (k == k') = false) : ((k', v) :: r).lookup k = r.lookup k := by
  simp [List.lookup, h]
theorem kit_self {K : PySem.W.Frag} (C : Addr) : PySem.W.kitOne K (.ref C) (.ref C) = some true := if_pos (beq_self_eq_true _)
theorem nf_self {K : PySem.W.Frag} (C : Addr) : PySem.W.notFirst K C (.ref C) = true := by simp [PySem.W.notFirst]
theorem ne_cls {K : PySem.W.Frag} {C D : Addr} (h : PySem.W.kitOne K (.ref C) (.ref D) = some false) : C ≠ D := fun z => by
  rw [z, kit_self] at h
  cases h
theorem sqt_same {K : PySem.W.Frag} {H H' : Hp} {r : Addr} {xs : List V} (s : Same H H') (h : SqT K H r xs) : SqT K H' r xs := by
  rcases h with (h | ⟨ob, h⟩) | h
  · exact .inl (.inl (s _ _ h))
  · exact .inl (.inr ⟨ob, s _ _ h⟩)
  · exact .inr h
theorem Same.put {H H' : Hp} {p : Addr} {o : HO} (s : Same H H') (h : H p = none) : Same H (upd H' p o) := fun b x e => by
  rw [upd_ne (ne_of_none e h)]
  exact s _ _ e
theorem ixN_nat {i n : Nat} (h : i < n) : ixN n (i : Int) = some i := by
  unfold ixN
  split <;> first | (simp; omega) | (simp_all; try omega)
end My
namespace My
open PySem L2 SX
open C8 (pss_cut tCut cutS_slice pe_gc)
/-! ### == between values of which one has its own __eq__ -/
section
variable {prog : Program} {w : World} {A : Around} {E : Value → Shared → Prop} {s : Shared} {K : PySem.W.Frag} {x C L f : Addr} {h₀ : Heap} {m : Str → Option Value} {ox : Obj} {od : Option Obj}
theorem cmp_back {a : Value} {Ta id : String} {Q : Value → Shared → Prop} (hu : A.units < cLine) (F : PyProof.Rows.Fr h₀ L s.heap m) (X₀ : K.In h₀) (I : PySem.W.InstAt s.heap x ox C od) (ha : s.TypeIs a Ta) (h1 : Slot Ta "__eq__" id)
    (hsub : PySem.W.subIn K (.ref C) (.type Ta) = some false) (hc : ∀ Q' : Value → Shared → Prop, Q' .notImplemented s → wpAny (model prog w) A (call (.builtin id) [a, .ref x]) Q' E s)
    (hs : PySem.W.findIn K (.ref C) "__eq__" = some (some (.ref f))) (hf : PySem.W.isFn K (.ref f) = true)
    (h : wpAny (model prog w) A (call (.ref f) [.ref x, a]) (PySem.W.CmpBack Q) E s) : wpAny (model prog w) A (richCompare .Eq a (.ref x)) Q E s := by
  have X := X₀.keeps F.keep
  have one : wpAny (model prog w) A (tryCompare (.ref x) "__eq__" a) (fun r s' => ∃ v, r = some v ∧ Q v s') E s := by
    unfold tryCompare
    refine wpAny_bind (PySem.W.ifBound_K X I hs hf (wpAny_mono h (fun v s' hv => ?_) fun _ _ e => e))
    cases v <;> first | exact hv.elim | exact wpAny_pure ⟨_, rfl, hv⟩
  unfold richCompare
  simp only [cmpInfo, ha.oneThing_none]
  refine wpAny_holding (wpAny_bind (wpAny_cRoomFor hu ?_))
  refine wpAny_bind (wpAny_typeOf ha (wpAny_bind (I.type.here ?_)))
  have hne : (Value.ref C == Value.type Ta) = false := rfl
  have hne' : (Value.type Ta != Value.ref C) = true := rfl
  simp only [hne', if_true]
  refine wpAny_bind ((PySem.W.looks_subIn X hsub).here ?_)
  simp only [Bool.false_eq_true, if_false, Bool.not_false, if_true]
  refine wpAny_bind (m := tryCompare a _ _) (wpAny_tryCompare_declines ha h1 (hc _ ⟨rfl, ?_⟩))
  refine wpAny_bind (wpAny_mono one (fun r s' z => ?_) fun _ _ e => e)
  obtain ⟨v, rfl, hq⟩ := z
  exact wpAny_pure hq
end
theorem int_eq_declines_ins (b : Int) (u : Tok) (l : Addr) (o : Obj) :
    PySem.Meets (Builtin.«int.__eq__» ⟨[.int b u, .ref l], []⟩) (fun _ R s => s.heap.get? l = some o ∧ o.data = .plain ∧ (∃ C, o.cls = .ref C) ∧ R (.ok (.ret .notImplemented)) s) :=
  .of_wp fun prog w A R s h => by
    obtain ⟨hp, g, d, tk, os⟩ := s
    obtain ⟨hl, hd, ⟨C, hC⟩, h⟩ := h
    obtain ⟨cls, dd, dat, sl⟩ := o
    cases hd
    cases hC
    wp_walk using PySem.AutoSeq1.wpAny_loadPart' hl, wpAny_load hl
    exact ⟨_, rfl, h⟩
theorem str_eq_declines_ins (b : Str) (u : Tok) (l : Addr) (o : Obj) :
    PySem.Meets (Builtin.«str.__eq__» ⟨[.str b u, .ref l], []⟩) (fun _ R s => s.heap.get? l = some o ∧ o.data = .plain ∧ (∃ C, o.cls = .ref C) ∧ R (.ok (.ret .notImplemented)) s) :=
  .of_wp fun prog w A R s h => by
    obtain ⟨hp, g, d, tk, os⟩ := s
    obtain ⟨hl, hd, ⟨C, hC⟩, h⟩ := h
    obtain ⟨cls, dd, dat, sl⟩ := o
    cases hd
    cases hC
    wp_walk using PySem.AutoSeq1.wpAny_loadPart' hl, wpAny_load hl
    exact ⟨_, rfl, h⟩
/-- the type of a scalar or of an instance -/
inductive TyE (H : Hp) : V → Value → Prop where
  | non : TyE H .non (.type "NoneType")
  | bl (b : Bool) : TyE H (.bl b) (.type "bool")
  | int (i : Int) : TyE H (.int i) (.type "int")
  | str (x : Str) : TyE H (.str x) (.type "str")
  | ins {a C dx : Addr} {fs : List (Str × V)} (e : H a = some (.ins C dx fs)) : TyE H (.ref a) (.ref C)
theorem TyE.looks {X : Cx} {pins : List (Addr × Obj)} {s : Shared} {σ : St} {H : Hp} {y : V} {u t : Value} (I : Inv X pins σ H s) (r : RelV y u) (ty : TyE H y t) : PySem.W.Looks (model X.prog X.w) s.heap (typeOf u) t := by
  cases ty with
  | non => cases (show u = Value.none from r); exact .of_pure rfl
  | bl b => cases (show u = Value.bool b from r); exact .of_pure rfl
  | int i => obtain ⟨t', e⟩ := (show ∃ t, u = Value.int i t from r); cases e; exact .of_pure rfl
  | str x => obtain ⟨t', e⟩ := (show ∃ t, u = Value.str x t from r); cases e; exact .of_pure rfl
  | ins e =>
    cases (show u = Value.ref _ from r)
    obtain ⟨mA, J, _⟩ := ins_get I.hok e
    obtain ⟨od, J, _⟩ := J.look
    exact J.type
/-- what the call of the own == gives back -/
theorem own_run {X : Cx} {n : Nat} {CX : CXT} {f : Addr} {fd : FuncData} {ps : List Str} {sp : Sp} {E : XK} (F : FnOk X.prog X.w X.K X.mg X.base CX n f fd ps sp) (hb : Binds X.K fd ps []) (hx : Passes CX X E) (hr : Room n X.A)
    {pins : List (Addr × Obj)} {s : Shared} {σ : St} {H : Hp} {x y : V} {v u : Value} {Q : VK} (I : Inv X pins σ H s) (rx : RelV x v) (ry : RelV y u) (h : sp [x, y] H (fun z H' => ∃ b, z = .bl b ∧ Q (.bl b) H') E) :
    wpAny (model X.prog X.w) X.A (call (.ref f) [v, u]) (PySem.W.CmpBack (EP X pins σ Q)) X.xe s := by
  have hl := F.len _ _ _ _ h
  have r2 : Vals [x, y] [v, u] := .cons rx (.cons ry .nil)
  refine wpAny_call (codeAny_mono (F.run X.A X.stack s H ⟨[v, u], []⟩ [v, u] [x, y] _ E hr I.env0 (by
    have := hb s [v, u] I.kIn (by simpa using hl)
    simpa using this) r2 h) fun r s' hq => ?_)
  cases r with
  | error e => exact hx pins σ H s e s' I hq
  | ok fl =>
    cases fl with
    | ret w =>
      obtain ⟨z, H', I', rz, b, ez, q⟩ := I.after hq
      subst ez
      cases (show w = Value.bool b from rz)
      exact ⟨.bl b, H', I', rfl, q⟩
    | next => exact False.elim hq
    | brk => exact False.elim hq
    | cont => exact False.elim hq
/-- an instance with its own == on the left -/
theorem op_eqL {X : Cx} {n : Nat} {CX : CXT} {C f : Addr} {fd : FuncData} {ps : List Str} {sp : Sp} {E : XK} (O : OwnEq X.K C f) (F : FnOk X.prog X.w X.K X.mg X.base CX n f fd ps sp) (hb : Binds X.K fd ps []) (hx : Passes CX X E) (hr : Room n X.A) :
    OpR X (compareOp .Eq) (fun x y H Q => ∃ a dx fs tb, x = .ref a ∧ H a = some (.ins C dx fs) ∧ TyE H y tb ∧ PySem.W.notFirst X.K C tb = true ∧ sp [x, y] H (fun z H' => ∃ b, z = .bl b ∧ Q (.bl b) H') E) := by
  intro pins s σ H x y v u Q I rx ry h
  obtain ⟨a, dx, fs, tb, rfl, ha, ty, hn, h⟩ := h
  cases (show v = Value.ref a from rx)
  obtain ⟨mA, J, _⟩ := ins_get I.hok ha
  obtain ⟨od, J, _⟩ := J.look
  obtain ⟨m, hF⟩ := I.fr
  show wpAny (model X.prog X.w) X.A (richCompare .Eq (.ref a) u) (EP X pins σ Q) X.xe s
  exact PySem.W.cmp_K (op := .Eq) hr.units0 hF I.ok.mod.kin J (ty.looks I ry) hn O.at_ O.fn (own_run F hb hx hr I (x := .ref a) (v := .ref a) rfl ry h)
/-- a scalar on the left, an instance with its own == on the right -/
theorem op_eqR {X : Cx} {n : Nat} {CX : CXT} {C f : Addr} {fd : FuncData} {ps : List Str} {sp : Sp} {E : XK} (O : OwnEq X.K C f) (F : FnOk X.prog X.w X.K X.mg X.base CX n f fd ps sp) (hb : Binds X.K fd ps []) (hx : Passes CX X E) (hr : Room n X.A)
    (h1 : PySem.W.subIn X.K (.ref C) (.type "NoneType") = some false) (h2 : PySem.W.subIn X.K (.ref C) (.type "int") = some false) (h3 : PySem.W.subIn X.K (.ref C) (.type "str") = some false) :
    OpR X (compareOp .Eq) (fun x y H Q => ∃ a dx fs, y = .ref a ∧ H a = some (.ins C dx fs) ∧ (x = .non ∨ (∃ i, x = .int i) ∨ ∃ z, x = .str z) ∧ sp [y, x] H (fun z H' => ∃ b, z = .bl b ∧ Q (.bl b) H') E) := by
  intro pins s σ H x y v u Q I rx ry h
  obtain ⟨a, dx, fs, rfl, ha, hx', h⟩ := h
  cases (show u = Value.ref a from ry)
  obtain ⟨mA, J, _⟩ := ins_get I.hok ha
  have hob := J.obj
  obtain ⟨od, J, _⟩ := J.look
  obtain ⟨m, hF⟩ := I.fr
  show wpAny (model X.prog X.w) X.A (richCompare .Eq v (.ref a)) (EP X pins σ Q) X.xe s
  have hc := own_run F hb hx hr I (x := .ref a) (v := .ref a) (u := v) rfl rx h
  rcases hx' with rfl | ⟨i, rfl⟩ | ⟨z, rfl⟩
  · cases (show v = Value.none from rx)
    exact cmp_back hr.units0 hF I.ok.mod.kin J (Ta := "NoneType") rfl PySem.F.slot_NoneType_eq h1 (fun Q' hq => call_gives PySem.F.slot_NoneType_eq rfl PySem.F.entry_NoneType_eq (PySem.F.args_NoneType_eq_2 _ _) (SeqAt.NoneType___eq___none_ref_0 a) hq) O.at_ O.fn hc
  · obtain ⟨t, rfl⟩ := (show ∃ t, v = Value.int i t from rx)
    exact cmp_back hr.units0 hF I.ok.mod.kin J (Ta := "int") (typeIs_int s i t) PySem.F.slot_int_eq h2 (fun Q' hq => call_meets PySem.F.slot_int_eq (typeIs_int s i t) PySem.F.entry_int_eq (PySem.F.args_int_eq_2 _ _) (int_eq_declines_ins i t a _) ⟨hob, rfl, ⟨_, rfl⟩, hq⟩) O.at_ O.fn hc
  · obtain ⟨t, rfl⟩ := (show ∃ t, v = Value.str z t from rx)
    exact cmp_back hr.units0 hF I.ok.mod.kin J (Ta := "str") (typeIs_str s z t) PySem.F.slot_str_eq h3 (fun Q' hq => call_meets PySem.F.slot_str_eq (typeIs_str s z t) PySem.F.entry_str_eq (PySem.F.args_str_eq_2 _ _) (str_eq_declines_ins z t a _) ⟨hob, rfl, ⟨_, rfl⟩, hq⟩) O.at_ O.fn hc
end My
namespace My
open PySem L2 SX XT XS XE
open C8 (pss_cut tCut cutS_slice pe_gc)
/-! ### values -/
inductive Dv where
  | non
  | bl (b : Bool)
  | int (i : Int)
  | str (x : Str)
  | obj (n : Nat)
  | bi (x : Str)
  deriving DecidableEq
abbrev refF (n : Nat) : List (Str × V) := [("number", .int (n : Nat))]
def Has (A : Ads) (H : Hp) : V → Dv → Prop := fun v d => match d with
  | .non => v = .non
  | .bl b => v = .bl b
  | .int i => v = .int i
  | .str x => v = .str x
  | .obj n => ∃ a dx, v = .ref a ∧ H a = some (.ins A.Ref dx (refF n))
  | .bi x => ∃ a dx, v = .ref a ∧ H a = some (.ins A.Builtin dx [("name", .str x)])
/-- what is not a list stays -/
def Sv (H H' : Hp) : Prop := ∀ b u, H b = some u → (∀ xs, u ≠ .lst xs) → H' b = some u
theorem Same.sv {H H' : Hp} (s : Same H H') : Sv H H' := fun b u e _ => s b u e
theorem Sv.trans {H H1 H2 : Hp} (a : Sv H H1) (b : Sv H1 H2) : Sv H H2 := fun c u e n => b c u (a c u e n) n
theorem Keep.sv {H H' : Hp} {p : Addr} {xs : List V} (k : Keep p H H') (hp : H p = some (.lst xs)) : Sv H H' := fun b u e n => k b u e fun z => by
  rw [z, hp] at e
  exact n _ (Option.some.inj e).symm
theorem Has.sv {A : Ads} {H H' : Hp} (s : Sv H H') {v : V} {d : Dv} (h : Has A H v d) : Has A H' v d := by
  cases d with
  | obj n =>
    obtain ⟨a, dx, rfl, e⟩ := h
    exact ⟨a, dx, rfl, s _ _ e fun _ z => by cases z⟩
  | bi x =>
    obtain ⟨a, dx, rfl, e⟩ := h
    exact ⟨a, dx, rfl, s _ _ e fun _ z => by cases z⟩
  | _ => exact h
def Hs (A : Ads) (H : Hp) : List V → List Dv → Prop
  | [], [] => True
  | v :: vs, d :: ds => Has A H v d ∧ Hs A H vs ds
  | _, _ => False
theorem Hs.imp {A : Ads} {H H' : Hp} (s : ∀ v d, Has A H v d → Has A H' v d) : ∀ {vs : List V} {ds : List Dv}, Hs A H vs ds → Hs A H' vs ds
  | [], [], _ => trivial
  | _ :: _, _ :: _, h => ⟨s _ _ h.1, Hs.imp s h.2⟩
  | [], _ :: _, h => h.elim
  | _ :: _, [], h => h.elim
theorem Hs.len {A : Ads} {H : Hp} : ∀ {vs : List V} {ds : List Dv}, Hs A H vs ds → vs.length = ds.length
  | [], [], _ => rfl
  | _ :: _, _ :: _, h => congrArg (· + 1) (Hs.len h.2)
  | [], _ :: _, h => h.elim
  | _ :: _, [], h => h.elim
theorem Hs.at {A : Ads} {H : Hp} : ∀ {vs : List V} {ds : List Dv} {i : Nat} {d : Dv}, Hs A H vs ds → ds[i]? = some d → ∃ v, vs[i]? = some v ∧ Has A H v d
  | _ :: _, _ :: _, 0, _, h, e => by
    simp at e
    exact ⟨_, rfl, e ▸ h.1⟩
  | _ :: _, _ :: _, i + 1, _, h, e => by
    simp at e
    obtain ⟨v, e1, e2⟩ := Hs.at h.2 e
    exact ⟨v, by simpa using e1, e2⟩
  | [], _ :: _, _, _, h, _ => h.elim
  | _ :: _, [], _, _, h, _ => h.elim
  | [], [], _, _, _, e => by simp at e
theorem Hs.app {A : Ads} {H : Hp} : ∀ {vs us : List V} {ds es : List Dv}, Hs A H vs ds → Hs A H us es → Hs A H (vs ++ us) (ds ++ es)
  | [], _, [], _, _, h => h
  | _ :: _, _, _ :: _, _, h, g => ⟨h.1, Hs.app h.2 g⟩
  | [], _, _ :: _, _, h, _ => h.elim
  | _ :: _, _, [], _, h, _ => h.elim
theorem Hs.drop {A : Ads} {H : Hp} : ∀ {vs : List V} {ds : List Dv} (n : Nat), Hs A H vs ds → Hs A H (vs.drop n) (ds.drop n)
  | _, _, 0, h => by simpa using h
  | [], [], _ + 1, _ => trivial
  | _ :: _, _ :: _, n + 1, h => Hs.drop n h.2
  | [], _ :: _, _ + 1, h => h.elim
  | _ :: _, [], _ + 1, h => h.elim
theorem Hs.take {A : Ads} {H : Hp} : ∀ {vs : List V} {ds : List Dv} (n : Nat), Hs A H vs ds → Hs A H (vs.take n) (ds.take n)
  | _, _, 0, _ => by simp [Hs]
  | [], [], _ + 1, _ => trivial
  | _ :: _, _ :: _, n + 1, h => ⟨h.1, Hs.take n h.2⟩
  | [], _ :: _, _ + 1, h => h.elim
  | _ :: _, [], _ + 1, h => h.elim
/-! ### kinds -/
def dB : Dv → Bool
  | .bl _ => true
  | _ => false
def dI : Dv → Bool
  | .bl _ => true
  | .int _ => true
  | _ => false
def dS : Dv → Bool
  | .str _ => true
  | _ => false
def dR : Dv → Bool
  | .obj _ => true
  | _ => false
def dBi : Dv → Bool
  | .bi _ => true
  | _ => false
def tyD (A : Ads) : Dv → Value
  | .non => .type "NoneType"
  | .bl _ => .type "bool"
  | .int _ => .type "int"
  | .str _ => .type "str"
  | .obj _ => .ref A.Ref
  | .bi _ => .ref A.Builtin
section
variable {P : Program} {w : World} {K : PySem.W.Frag} {mg : Str → Option Value} {base : Heap} {A : Ads}
theorem has_ty (L : Lib P K mg A) {H : Hp} {v : V} {d : Dv} (h : Has A H v d) : TyX K H v (tyD A d) := by
  cases d with
  | non => cases h; exact .base .non
  | bl b => cases h; exact .base (.bl b)
  | int b => cases h; exact .base (.int b)
  | str b => cases h; exact .base (.str b)
  | obj n =>
    obtain ⟨a, dx, rfl, h⟩ := h
    exact L.c_Ref.ty h
  | bi n =>
    obtain ⟨a, dx, rfl, h⟩ := h
    exact L.c_Builtin.ty h
theorem kit_bool (L : Lib P K mg A) (d : Dv) : PySem.W.kitOne K (tyD A d) (.type "bool") = some (dB d) := by
  cases d with
  | non => exact kit_ty (show kitB "NoneType" "bool" = some false by decide +kernel)
  | bl b => exact kit_ty (show kitB "bool" "bool" = some true by decide +kernel)
  | int b => exact kit_ty (show kitB "int" "bool" = some false by decide +kernel)
  | str b => exact kit_ty (show kitB "str" "bool" = some false by decide +kernel)
  | obj n => exact L.k_Ref_bool
  | bi n => exact L.k_Builtin_bool
theorem kit_int (L : Lib P K mg A) (d : Dv) : PySem.W.kitOne K (tyD A d) (.type "int") = some (dI d) := by
  cases d with
  | non => exact kit_ty (show kitB "NoneType" "int" = some false by decide +kernel)
  | bl b => exact kit_ty (show kitB "bool" "int" = some true by decide +kernel)
  | int b => exact kit_ty (show kitB "int" "int" = some true by decide +kernel)
  | str b => exact kit_ty (show kitB "str" "int" = some false by decide +kernel)
  | obj n => exact L.k_Ref_int
  | bi n => exact L.k_Builtin_int
theorem kit_str (L : Lib P K mg A) (d : Dv) : PySem.W.kitOne K (tyD A d) (.type "str") = some (dS d) := by
  cases d with
  | non => exact kit_ty (show kitB "NoneType" "str" = some false by decide +kernel)
  | bl b => exact kit_ty (show kitB "bool" "str" = some false by decide +kernel)
  | int b => exact kit_ty (show kitB "int" "str" = some false by decide +kernel)
  | str b => exact kit_ty (show kitB "str" "str" = some true by decide +kernel)
  | obj n => exact L.k_Ref_str
  | bi n => exact L.k_Builtin_str
theorem kit_R (L : Lib P K mg A) (d : Dv) : PySem.W.kitOne K (tyD A d) (.ref A.Ref) = some (dR d) := by
  cases d with
  | non => exact L.k_NoneType_Ref
  | bl b => exact L.k_bool_Ref
  | int b => exact L.k_int_Ref
  | str b => exact L.k_str_Ref
  | obj n => exact kit_self _
  | bi n => exact L.k_Builtin_Ref
theorem kit_B (L : Lib P K mg A) (d : Dv) : PySem.W.kitOne K (tyD A d) (.ref A.Builtin) = some (dBi d) := by
  cases d with
  | non => exact L.k_NoneType_Builtin
  | bl b => exact L.k_bool_Builtin
  | int b => exact L.k_int_Builtin
  | str b => exact L.k_str_Builtin
  | obj n => exact L.k_Ref_Builtin
  | bi n => exact kit_self _
theorem kit_list_list {K : PySem.W.Frag} : PySem.W.kitOne K (.type "list") (.type "list") = some true := kit_ty (show kitB "list" "list" = some true by decide +kernel)
/-! ### Ref, Builtin -/
def spI1 (C : Addr) (n : Str) : Sp := fun vs H Q _ => ∃ a dx v, vs = [.ref a, v] ∧ H a = some (.ins C dx []) ∧ ∀ H', Keep a H H' → H' a = some (.ins C dx [(n, v)]) → Q .non H'
theorem ok_Ref_init (L : Lib P K mg A) : FnOk P w K mg base CX0 1 L.Ref_init.f L.Ref_init.fd ["self", "number"] (spI1 A.Ref "number") := by
  refine L.Ref_init.F.ok sc_Ref_init (fun vs H Q E h => ?_) (fun cdv A' outer s H vs Q E hr h => ?_)
  · obtain ⟨a, dx, v, rfl, _⟩ := h
    rfl
  · obtain ⟨a, dx, v, rfl, ha, q⟩ := h
    refine ⟨_, (pss_one (ps_fld (pv 0) (pv 1) rfl)), ?_⟩
    exact ⟨_, rfl, _, rfl, a, A.Ref, dx, [], rfl, ha, L.c_Ref.cl, L.n_Ref_number, (by show 0 < 1000; decide), q _ keep_upd upd_same⟩
theorem ok_Builtin_init (L : Lib P K mg A) : FnOk P w K mg base CX0 1 L.Builtin_init.f L.Builtin_init.fd ["self", "name"] (spI1 A.Builtin "name") := by
  refine L.Builtin_init.F.ok sc_Builtin_init (fun vs H Q E h => ?_) (fun cdv A' outer s H vs Q E hr h => ?_)
  · obtain ⟨a, dx, v, rfl, _⟩ := h
    rfl
  · obtain ⟨a, dx, v, rfl, ha, q⟩ := h
    refine ⟨_, (pss_one (ps_fld (pv 0) (pv 1) rfl)), ?_⟩
    exact ⟨_, rfl, _, rfl, a, A.Builtin, dx, [], rfl, ha, L.c_Builtin.cl, L.n_Builtin_name, (by show 0 < 1000; decide), q _ keep_upd upd_same⟩
def spERq (A : Ads) : Sp := fun vs H Q _ => ∃ a dx n y d, vs = [.ref a, y] ∧ H a = some (.ins A.Ref dx (refF n)) ∧ Has A H y d ∧ Q (.bl (decide (Dv.obj n = d))) H
theorem ok_Ref_eq (L : Lib P K mg A) : FnOk P w K mg base CX0 1 L.Ref_eq.f L.Ref_eq.fd ["self", "other"] (spERq A) := by
  refine L.Ref_eq.F.ok sc_Ref_eq (fun vs H Q E h => ?_) (fun cdv A' outer s H vs Q E hr h => ?_)
  · obtain ⟨a, dx, n, y, d, rfl, _⟩ := h
    rfl
  · obtain ⟨a, dx, n, y, d, rfl, ha, hy, q⟩ := h
    refine ⟨_, (pss_one (ps_ret (pe_and (pe_callB call_isi (by rfl) L.z_isinstance (by decide +kernel) (pa_cons (pv 1) (pa_cons (pe_gc (v := .ref A.Ref) (by rfl) ⟨_, L.c_Ref.g, rfl⟩) pa_nil))) (pe_one (pe_cmpR op_eq (pe_fld (pv 0) rfl) (pe_fld (pv 1) rfl) (nomark _)))))), ?_⟩
    refine ⟨_, rfl, y, .ref A.Ref, tyD A d, .ref A.Ref, dR d, rfl, .own _, has_ty L hy, kit_R L d, dR d, rfl, ?_⟩
    cases d with
    | obj m =>
      obtain ⟨b, dy, rfl, hb⟩ := hy
      refine iteT ⟨_, rfl, a, A.Ref, dx, _, _, rfl, ha, L.c_Ref.cl, L.n_Ref_number, lk_hit, _, rfl, b, A.Ref, dy, _, _, rfl, hb, L.c_Ref.cl, L.n_Ref_number, lk_hit, rfl, ?_⟩
      rw [show decide (V.int (n : Nat) = V.int (m : Nat)) = decide (Dv.obj n = Dv.obj m) by simp; omega]
      exact q
    | _ => exact iteF (by simpa using q)
def spEBq (A : Ads) : Sp := fun vs H Q _ => ∃ a dx n y d, vs = [.ref a, y] ∧ H a = some (.ins A.Builtin dx [("name", .str n)]) ∧ Has A H y d ∧ Q (.bl (decide (Dv.bi n = d))) H
theorem ok_Builtin_eq (L : Lib P K mg A) : FnOk P w K mg base CX0 1 L.Builtin_eq.f L.Builtin_eq.fd ["self", "other"] (spEBq A) := by
  refine L.Builtin_eq.F.ok sc_Builtin_eq (fun vs H Q E h => ?_) (fun cdv A' outer s H vs Q E hr h => ?_)
  · obtain ⟨a, dx, n, y, d, rfl, _⟩ := h
    rfl
  · obtain ⟨a, dx, n, y, d, rfl, ha, hy, q⟩ := h
    refine ⟨_, (pss_one (ps_ret (pe_and (pe_callB call_isi (by rfl) L.z_isinstance (by decide +kernel) (pa_cons (pv 1) (pa_cons (pe_gc (v := .ref A.Builtin) (by rfl) ⟨_, L.c_Builtin.g, rfl⟩) pa_nil))) (pe_one (pe_cmpR op_eq (pe_fld (pv 0) rfl) (pe_fld (pv 1) rfl) (nomark _)))))), ?_⟩
    refine ⟨_, rfl, y, .ref A.Builtin, tyD A d, .ref A.Builtin, dBi d, rfl, .own _, has_ty L hy, kit_B L d, dBi d, rfl, ?_⟩
    cases d with
    | bi m =>
      obtain ⟨b, dy, rfl, hb⟩ := hy
      refine iteT ⟨_, rfl, a, A.Builtin, dx, _, _, rfl, ha, L.c_Builtin.cl, L.n_Builtin_name, lk_hit, _, rfl, b, A.Builtin, dy, _, _, rfl, hb, L.c_Builtin.cl, L.n_Builtin_name, lk_hit, rfl, ?_⟩
      rw [show decide (V.str n = V.str m) = decide (Dv.bi n = Dv.bi m) by simp]
      exact q
    | _ => exact iteF (by simpa using q)
/-- == of two values, of which either both are booleans or none is -/
def rEqM (A : Ads) : R2 := fun x y H Q => ∃ d e, Has A H x d ∧ Has A H y e ∧ dB d = dB e ∧ Q (.bl (decide (d = e))) H
theorem op_eqM {X : Cx} (L : Lib X.prog X.K X.mg A) (hr : Room 1 X.A) : OpR X (compareOp .Eq) (rEqM A) := by
  have FR : FnOk X.prog X.w X.K X.mg X.base CX0 1 L.Ref_eq.f L.Ref_eq.fd ["self", "other"] (spERq A) := ok_Ref_eq L
  have FB : FnOk X.prog X.w X.K X.mg X.base CX0 1 L.Builtin_eq.f L.Builtin_eq.fd ["self", "other"] (spEBq A) := ok_Builtin_eq L
  intro pins s σ H x y v u Q I rx ry h
  obtain ⟨d, e, hd, he, hb, q⟩ := h
  have tyE : ∀ {z : V} {g : Dv}, Has A H z g → TyE H z (tyD A g) := by
    intro z g hz
    cases g with
    | non => cases hz; exact .non
    | bl b => cases hz; exact .bl b
    | int b => cases hz; exact .int b
    | str b => cases hz; exact .str b
    | obj n =>
      obtain ⟨a, dx, rfl, hz⟩ := hz
      exact .ins hz
    | bi n =>
      obtain ⟨a, dx, rfl, hz⟩ := hz
      exact .ins hz
  have nfR : dB e = false → PySem.W.notFirst X.K A.Ref (tyD A e) = true := by
    intro z
    cases e with
    | non => exact L.nf_Ref_NoneType
    | bl b => cases z
    | int b => exact L.nf_Ref_int
    | str b => exact L.nf_Ref_str
    | obj n => exact nf_self _
    | bi n => exact L.nf_Ref_Builtin
  have nfB : dB e = false → PySem.W.notFirst X.K A.Builtin (tyD A e) = true := by
    intro z
    cases e with
    | non => exact L.nf_Builtin_NoneType
    | bl b => cases z
    | int b => exact L.nf_Builtin_int
    | str b => exact L.nf_Builtin_str
    | obj n => exact L.nf_Builtin_Ref
    | bi n => exact nf_self _
  cases hdd : d with
  | obj n =>
    subst hdd
    obtain ⟨a, dx, rfl, ha⟩ := hd
    exact op_eqL L.Ref_eq.m FR L.Ref_eq.b (E := E0) pass0 hr pins s σ H _ y v u Q I rx ry ⟨a, dx, _, _, rfl, ha, tyE he, nfR hb.symm, a, dx, n, y, e, rfl, ha, he, _, rfl, q⟩
  | bi n =>
    subst hdd
    obtain ⟨a, dx, rfl, ha⟩ := hd
    exact op_eqL L.Builtin_eq.m FB L.Builtin_eq.b (E := E0) pass0 hr pins s σ H _ y v u Q I rx ry ⟨a, dx, _, _, rfl, ha, tyE he, nfB hb.symm, a, dx, n, y, e, rfl, ha, he, _, rfl, q⟩
  | _ =>
    subst hdd
    cases hee : e with
    | obj n =>
      subst hee
      obtain ⟨a, dx, rfl, ha⟩ := he
      first
        | (cases hb; done)
        | exact op_eqR L.Ref_eq.m FR L.Ref_eq.b (E := E0) pass0 hr L.su_Ref_NoneType L.su_Ref_int L.su_Ref_str pins s σ H _ _ v u Q I rx ry ⟨a, dx, _, rfl, ha, (by first | exact .inl hd | exact .inr (.inl ⟨_, hd⟩) | exact .inr (.inr ⟨_, hd⟩)), a, dx, n, _, _, rfl, ha, hd, _, rfl, by simpa [eq_comm] using q⟩
    | bi n =>
      subst hee
      obtain ⟨a, dx, rfl, ha⟩ := he
      first
        | (cases hb; done)
        | exact op_eqR L.Builtin_eq.m FB L.Builtin_eq.b (E := E0) pass0 hr L.su_Builtin_NoneType L.su_Builtin_int L.su_Builtin_str pins s σ H _ _ v u Q I rx ry ⟨a, dx, _, rfl, ha, (by first | exact .inl hd | exact .inr (.inl ⟨_, hd⟩) | exact .inr (.inr ⟨_, hd⟩)), a, dx, n, _, _, rfl, ha, hd, _, rfl, by simpa [eq_comm] using q⟩
    | _ =>
      subst hee
      cases hd
      cases he
      first
        | (cases hb; done)
        | exact op_eq pins s σ H _ _ v u Q I rx ry ⟨(by rfl), by simpa using q⟩
end
end My
namespace My
open PySem L2 SX XT XS XE
open C8 (pss_cut tCut cutS_slice pe_gc)
def tabF (d : Addr) : List (Str × V) := [("_entries", .ref d)]
structure TblAt (P : Program) (w : World) (A : Ads) (H : Hp) (t : Addr) (d : Addr) (es : List Ent) : Prop where
  ins : ∃ dx, H t = some (.ins A.Table dx (tabF d))
  tab : XT.TabAt P w H d es
  vals : ∀ e ∈ es, ∃ q, e.2.2 = .ref q ∧ ∃ v, H q = some (.tup [e.1, v])
section
variable {P : Program} {w : World} {K : PySem.W.Frag} {mg : Str → Option Value} {base : Heap} {A : Ads}
theorem kit_bool_bool : PySem.W.kitOne K (.type "bool") (.type "bool") = some true := kit_ty (show kitB "bool" "bool" = some true by decide +kernel)
theorem kit_int_bool : PySem.W.kitOne K (.type "int") (.type "bool") = some false := kit_ty (show kitB "int" "bool" = some false by decide +kernel)
theorem kit_str_bool : PySem.W.kitOne K (.type "str") (.type "bool") = some false := kit_ty (show kitB "str" "bool" = some false by decide +kernel)
theorem kit_non_bool : PySem.W.kitOne K (.type "NoneType") (.type "bool") = some false := kit_ty (show kitB "NoneType" "bool" = some false by decide +kernel)
theorem units64 {A : Around} {k : Nat} (hr : Room k A) : A.units + 64 < cLine := hr.units
theorem tab_lk (d : Addr) : (tabF d).lookup ("_entries" : Str) = some (.ref d) := lk_hit
theorem tab_none {d : Addr} {n : Str} (h : (n == ("_entries" : Str)) = false) : (tabF d).lookup n = none := by
  simp [tabF, List.lookup, h]
theorem TblAt.same {H H' : Hp} {t d : Addr} {es : List Ent} (s : Same H H') (h : TblAt P w A H t d es) : TblAt P w A H' t d es := by
  obtain ⟨⟨dx, h1⟩, h2, h3⟩ := h
  refine ⟨⟨dx, s _ _ h1⟩, ⟨s _ _ h2.at_, fun e he => ⟨(h2.keys e he).1, s _ _ (h2.keys e he).2⟩, h2.len⟩, fun e he => ?_⟩
  obtain ⟨q, e1, v, e2⟩ := h3 e he
  exact ⟨q, e1, v, s _ _ e2⟩
def spTagged : Sp := fun vs H Q _ => ∃ k, vs = [k] ∧ keyOk k = true ∧ ∀ p, H p = none → Q (.ref p) (upd H p (.tup [.bl (isB k), k]))
theorem ok_tagged (L : Lib P K mg A) : FnOk P w K mg base CX0 1 L.tagged.f L.tagged.fd ["key"] spTagged := by
  refine L.tagged.F.ok sc_tagged (fun vs H Q E h => ?_) (fun cdv A' outer s H vs Q E hr h => ?_)
  · obtain ⟨k, rfl, _⟩ := h
    rfl
  · obtain ⟨k, rfl, hk, q⟩ := h
    refine ⟨_, (pss_one (ps_ret (pe_tup (pa_cons (pe_callB call_isi (by rfl) L.z_isinstance (by decide +kernel) (pa_cons (pv 0) (pa_cons (pe_bltn (v := .ty "bool") (by rfl) L.z_bool (by decide +kernel) rfl) pa_nil))) (pa_cons (pv 0) pa_nil))))), ?_⟩
    cases k with
    | non => exact ⟨_, rfl, _, .ty "bool", _, _, false, rfl, .ty _, .base .non, kit_non_bool, _, rfl, (by show 2 ≤ sizeLine; decide), fun p np => q p np⟩
    | bl b => exact ⟨_, rfl, _, .ty "bool", _, _, true, rfl, .ty _, .base (.bl b), kit_bool_bool, _, rfl, (by show 2 ≤ sizeLine; decide), fun p np => q p np⟩
    | int i => exact ⟨_, rfl, _, .ty "bool", _, _, false, rfl, .ty _, .base (.int i), kit_int_bool, _, rfl, (by show 2 ≤ sizeLine; decide), fun p np => q p np⟩
    | str x => exact ⟨_, rfl, _, .ty "bool", _, _, false, rfl, .ty _, .base (.str x), kit_str_bool, _, rfl, (by show 2 ≤ sizeLine; decide), fun p np => q p np⟩
    | _ => cases hk
def spTI (P : Program) (w : World) (A : Ads) : Sp := fun vs H Q _ => ∃ t dx, vs = [.ref t] ∧ H t = some (.ins A.Table dx []) ∧ ∀ H' d, Keep t H H' → H d = none → TblAt P w A H' t d [] → Q .non H'
theorem ok_Table_init (L : Lib P K mg A) : FnOk P w K mg base CX0 1 L.Table_init.f L.Table_init.fd ["self"] (spTI P w A) := by
  refine L.Table_init.F.ok sc_Table_init (fun vs H Q E h => ?_) (fun cdv A' outer s H vs Q E hr h => ?_)
  · obtain ⟨t, dx, rfl, _⟩ := h
    rfl
  · obtain ⟨t, dx, rfl, ha, q⟩ := h
    refine ⟨_, (pss_one (ps_fld (pv 0) pe_tnew rfl)), ?_⟩
    refine fun d nd => ⟨_, rfl, t, A.Table, dx, [], rfl, (by rw [upd_ne (ne_of_none ha nd)]; exact ha), L.c_Table.cl, L.n_Table__entries, (by show 0 < 1000; decide), ?_⟩
    have ntd : d ≠ t := fun z => by rw [z, ha] at nd; cases nd
    refine q _ d (fun b o e n => by rw [upd_ne n, upd_ne (ne_of_none e nd)]; exact e) nd ⟨⟨dx, upd_same⟩, ⟨by rw [upd_ne ntd, upd_same]; rfl, (fun e he => nomatch he), Nat.zero_le _⟩, (fun e he => nomatch he)⟩
/-- only new things were made -/
def spTHas (P : Program) (w : World) (A : Ads) : Sp := fun vs H Q _ => ∃ t d es k, vs = [.ref t, k] ∧ TblAt P w A H t d es ∧ keyOk k = true ∧ ∀ H', Same H H' → Q (.bl (valT es k).isSome) H'
theorem ok_Table_has (L : Lib P K mg A) : FnOk P w K mg base CX0 2 L.Table_has.f L.Table_has.fd ["self", "key"] (spTHas P w A) := by
  have G_tagged : FnOk P w K mg base CX0 1 L.tagged.f L.tagged.fd ["key"] spTagged := ok_tagged L
  refine L.Table_has.F.ok sc_Table_has (fun vs H Q E h => ?_) (fun cdv A' outer s H vs Q E hr h => ?_)
  · obtain ⟨t, d, es, k, rfl, _⟩ := h
    rfl
  · obtain ⟨t, d, es, k, rfl, T, hk, q⟩ := h
    refine ⟨_, (pss_one (ps_ret (pe_cmp (pc_tin (units64 hr) (pe_call G_tagged (hr.mono (by omega)) (by rfl) L.tagged.g L.tagged.F.kp L.tagged.b .nil pass0 (pa_cons (pv 1) pa_nil)) (pe_fld (pv 0) rfl))))), ?_⟩
    refine ⟨_, rfl, k, rfl, hk, fun p np => ?_⟩
    have u1 := same_upd (o := .tup [.bl (isB k), k]) np
    obtain ⟨⟨dx, h1⟩, h2, h3⟩ := T.same u1
    exact ⟨_, rfl, t, A.Table, dx, _, _, rfl, h1, L.c_Table.cl, L.n_Table__entries, tab_lk d, d, p, k, es, rfl, rfl, h2, ⟨hk, upd_same⟩, q _ u1⟩
def spTPut (P : Program) (w : World) (A : Ads) : Sp := fun vs H Q _ => ∃ t d es k v, vs = [.ref t, k, v] ∧ TblAt P w A H t d es ∧ keyOk k = true ∧ es.length < 1000000 ∧
  ∀ H' b q, Keep d H H' → TblAt P w A H' t d (putT es k b (.ref q)) → H' q = some (.tup [k, v]) → H q = none → Q .non H'
theorem ok_Table_put (L : Lib P K mg A) : FnOk P w K mg base CX0 2 L.Table_put.f L.Table_put.fd ["self", "key", "value"] (spTPut P w A) := by
  have G_tagged : FnOk P w K mg base CX0 1 L.tagged.f L.tagged.fd ["key"] spTagged := ok_tagged L
  refine L.Table_put.F.ok sc_Table_put (fun vs H Q E h => ?_) (fun cdv A' outer s H vs Q E hr h => ?_)
  · obtain ⟨t, d, es, k, v, rfl, _⟩ := h
    rfl
  · obtain ⟨t, d, es, k, v, rfl, T, hk, hl, kk⟩ := h
    refine ⟨_, (pss_one (ps_tput (units64 hr) (pe_fld (pv 0) rfl) (pe_call G_tagged (hr.mono (by omega)) (by rfl) L.tagged.g L.tagged.F.kp L.tagged.b .nil pass0 (pa_cons (pv 1) pa_nil)) (pe_tup (pa_cons (pv 1) (pa_cons (pv 2) pa_nil))) (by rfl))), ?_⟩
    refine ⟨_, rfl, _, rfl, (by show 2 ≤ sizeLine; decide), fun q nq => ?_⟩
    have u1 := same_upd (o := .tup [k, v]) nq
    obtain ⟨⟨dx, h1⟩, h2, h3⟩ := T.same u1
    refine ⟨_, rfl, t, A.Table, dx, _, _, rfl, h1, L.c_Table.cl, L.n_Table__entries, tab_lk d, _, rfl, k, rfl, hk, fun p np => ?_⟩
    have u2 := same_upd (o := .tup [.bl (isB k), k]) np
    obtain ⟨⟨dx2, g1⟩, g2, g3⟩ := (T.same u1).same u2
    refine ⟨d, p, k, es, rfl, rfl, g2, ⟨hk, upd_same⟩, ?_⟩
    have ntd : t ≠ d := fun z => by rw [z, g2.at_] at g1; cases g1
    have nqd : q ≠ d := fun z => by rw [z] at nq; rw [T.tab.at_] at nq; cases nq
    have hq2 := u2 _ _ (upd_same (H := H) (a := q) (o := .tup [k, v]))
    refine kk _ p q (fun b o e n => by rw [upd_ne n]; exact u2 _ _ (u1 _ _ e)) ⟨⟨dx2, by rw [upd_ne ntd]; exact g1⟩, g2.put ⟨hk, upd_same⟩ hl, fun e he => ?_⟩ (by rw [upd_ne nqd]; exact hq2) nq
    have old : ∀ e ∈ es, ∃ q', e.2.2 = .ref q' ∧ ∃ v', (upd (upd (upd H q (.tup [k, v])) p (.tup [.bl (isB k), k])) d (TabO P w d (putT es k p (.ref q)))) q' = some (.tup [e.1, v']) := fun e he => by
      obtain ⟨q', e1, v', e2⟩ := g3 e he
      exact ⟨q', e1, v', by rw [upd_ne (fun z => by rw [z, g2.at_] at e2; cases e2)]; exact e2⟩
    unfold putT at he
    split at he
    · obtain ⟨e0, h0, ee⟩ := List.mem_map.mp he
      split at ee
      · rename_i hk0
        subst ee
        exact ⟨q, rfl, v, by rw [upd_ne nqd, hk0]; exact hq2⟩
      · subst ee
        exact old e0 h0
    · rcases List.mem_append.mp he with he | he
      · exact old e he
      · rw [List.mem_singleton] at he
        subst he
        exact ⟨q, rfl, v, by rw [upd_ne nqd]; exact hq2⟩
def spTPairs (P : Program) (w : World) (A : Ads) : Sp := fun vs H Q _ => ∃ t d es, vs = [.ref t] ∧ TblAt P w A H t d es ∧ ∀ H' l, Same H H' → H l = none → H' l = some (.lst (es.map (·.2.2))) → Q (.ref l) H'
theorem ok_Table_pairs (L : Lib P K mg A) : FnOk P w K mg base CX0 1 L.Table_pairs.f L.Table_pairs.fd ["self"] (spTPairs P w A) := by
  refine L.Table_pairs.F.ok sc_Table_pairs (fun vs H Q E h => ?_) (fun cdv A' outer s H vs Q E hr h => ?_)
  · obtain ⟨t, d, es, rfl, _⟩ := h
    rfl
  · obtain ⟨t, d, es, rfl, T, kk⟩ := h
    refine ⟨_, (pss_one (ps_ret (pe_callTy (call_list_vals rfl) (by rfl) L.z_list (by decide +kernel) (pa_cons (pe_tvals (pe_fld (pv 0) rfl)) pa_nil)))), ?_⟩
    obtain ⟨⟨dx, h1⟩, h2, h3⟩ := id T
    refine ⟨_, rfl, t, A.Table, dx, _, _, rfl, h1, L.c_Table.cl, L.n_Table__entries, tab_lk d, d, es, rfl, h2, fun v nv => ?_⟩
    have u1 := same_upd (o := ViewO d v) nv
    refine ⟨v, d, es, rfl, upd_same, (T.same u1).tab, fun l nl => ?_⟩
    have u2 := same_upd (o := .lst (es.map (·.2.2))) nl
    refine kk _ l (u1.trans u2) ?_ upd_same
    cases e : H l with
    | none => rfl
    | some o =>
      rw [u1 _ _ e] at nl
      cases nl
def spTMany (P : Program) (w : World) (A : Ads) : Sp := fun vs H Q _ => ∃ t d es, vs = [.ref t] ∧ TblAt P w A H t d es ∧ Q (.int (es.length : Nat)) H
theorem ok_Table_many (L : Lib P K mg A) : FnOk P w K mg base CX0 1 L.Table_many.f L.Table_many.fd ["self"] (spTMany P w A) := by
  refine L.Table_many.F.ok sc_Table_many (fun vs H Q E h => ?_) (fun cdv A' outer s H vs Q E hr h => ?_)
  · obtain ⟨t, d, es, rfl, _⟩ := h
    rfl
  · obtain ⟨t, d, es, rfl, T, kk⟩ := h
    refine ⟨_, (pss_one (ps_ret (pe_callB call_len_tab (by rfl) L.z_len PySem.boot_len (pa_cons (pe_fld (pv 0) rfl) pa_nil)))), ?_⟩
    obtain ⟨⟨dx, h1⟩, h2, h3⟩ := id T
    exact ⟨_, rfl, t, A.Table, dx, _, _, rfl, h1, L.c_Table.cl, L.n_Table__entries, tab_lk d, d, es, rfl, h2, kk⟩
end
end My
namespace My
open PySem L2 SX XT XS XE
open C8 (pss_cut tCut cutS_slice pe_gc)
/-! ### things -/
def toV : Dv → V
  | .non => .non
  | .bl b => .bl b
  | .int i => .int i
  | .str x => .str x
  | _ => .non
def keyD : Dv → Bool
  | .obj _ => false
  | .bi _ => false
  | _ => true
theorem has_key {A : Ads} {H : Hp} {v : V} {d : Dv} (h : Has A H v d) (k : keyD d = true) : v = toV d ∧ keyOk v = true := by
  cases d with
  | obj n => cases k
  | bi x => cases k
  | _ => cases h; exact ⟨rfl, rfl⟩
theorem key_has {A : Ads} {H : Hp} {d : Dv} (k : keyD d = true) : Has A H (toV d) d := by
  cases d with
  | obj n => cases k
  | bi x => cases k
  | _ => rfl
theorem toV_inj {d e : Dv} (hd : keyD d = true) (he : keyD e = true) (h : toV d = toV e) : d = e := by
  cases d <;> cases e <;> first | rfl | (cases hd; done) | (cases he; done) | (cases h; rfl) | (cases h; done)
def Ents (A : Ads) (H : Hp) : List Ent → List (Dv × Dv) → Prop
  | [], [] => True
  | e :: es, p :: ps => (keyD p.1 = true ∧ e.1 = toV p.1 ∧ ∃ q v, e.2.2 = .ref q ∧ H q = some (.tup [e.1, v]) ∧ Has A H v p.2) ∧ Ents A H es ps
  | _, _ => False
inductive Th where
  | parts (ds : List Dv)
  | table (es : List (Dv × Dv))
  | inst (o : Dv) (ns : List (Str × Dv))
  | kin (nm : Str) (par : Dv) (ms : List (Str × Dv))
def Nmd (A : Ads) (H : Hp) : List (Key × V) → List (Str × Dv) → Prop
  | [], [] => True
  | e :: es, p :: ps => (e.1 = .inr p.1 ∧ Has A H e.2 p.2) ∧ Nmd A H es ps
  | _, _ => False
def kinF (nm : Str) (v : V) (m : Addr) : List (Str × V) := [("name", .str nm), ("parent", v), ("methods", .ref m)]
def insF (v : V) (m : Addr) : List (Str × V) := [("owner", v), ("named", .ref m)]
def ThAt (P : Program) (w : World) (A : Ads) (H : Hp) (x m : Addr) : Th → Prop
  | .parts ds => ∃ dx vs, H x = some (.ins A.Parts dx [("held", .ref m)]) ∧ H m = some (.lst vs) ∧ Hs A H vs ds
  | .table es => ∃ ents, TblAt P w A H x m ents ∧ Ents A H ents es ∧ (es.map Prod.fst).Nodup ∧ es.length ≤ 1000
  | .inst o ns => ∃ dx v kvs, H x = some (.ins A.Instance dx (insF v m)) ∧ Has A H v o ∧ H m = some (.dK kvs) ∧ Nmd A H kvs ns
  | .kin nm par ms => ∃ dx v kvs, H x = some (.ins A.Kin dx (kinF nm v m)) ∧ Has A H v par ∧ H m = some (.dK kvs) ∧ Nmd A H kvs ms
theorem Ents.imp {A : Ads} {H H' : Hp} (s : ∀ v d, Has A H v d → Has A H' v d) (t : ∀ q xs, H q = some (.tup xs) → H' q = some (.tup xs)) : ∀ {es : List Ent} {ps : List (Dv × Dv)}, Ents A H es ps → Ents A H' es ps
  | [], [], _ => trivial
  | _ :: _, _ :: _, ⟨⟨k, e, q, v, h1, h2, h3⟩, r⟩ => ⟨⟨k, e, q, v, h1, t _ _ h2, s _ _ h3⟩, Ents.imp s t r⟩
  | [], _ :: _, h => h.elim
  | _ :: _, [], h => h.elim
theorem Nmd.imp {A : Ads} {H H' : Hp} (s : ∀ v d, Has A H v d → Has A H' v d) : ∀ {es : List (Key × V)} {ps : List (Str × Dv)}, Nmd A H es ps → Nmd A H' es ps
  | [], [], _ => trivial
  | _ :: _, _ :: _, h => ⟨⟨h.1.1, s _ _ h.1.2⟩, Nmd.imp s h.2⟩
  | [], _ :: _, h => h.elim
  | _ :: _, [], h => h.elim
/-- values and tuples stay -/
structure Vk (A : Ads) (H H' : Hp) : Prop where
  v : ∀ v d, Has A H v d → Has A H' v d
  t : ∀ q xs, H q = some (.tup xs) → H' q = some (.tup xs)
theorem Sv.vk {A : Ads} {H H' : Hp} (s : Sv H H') : Vk A H H' := ⟨fun _ _ h => h.sv s, fun q xs e => s _ _ e fun _ z => by cases z⟩
theorem Vk.trans {A : Ads} {H H1 H2 : Hp} (a : Vk A H H1) (b : Vk A H1 H2) : Vk A H H2 := ⟨fun v d h => b.v v d (a.v v d h), fun q xs h => b.t q xs (a.t q xs h)⟩
theorem Vk.rfl' {A : Ads} {H : Hp} : Vk A H H := ⟨fun _ _ h => h, fun _ _ h => h⟩
section
variable {P : Program} {w : World} {K : PySem.W.Frag} {mg : Str → Option Value} {base : Heap} {A : Ads}
theorem ThAt.imp {H H' : Hp} (k : Vk A H H') {x m : Addr} {th : Th} (hx : ∀ u, H x = some u → H' x = some u) (hm : ∀ u, H m = some u → H' m = some u) (h : ThAt P w A H x m th) : ThAt P w A H' x m th := by
  cases th with
  | parts ds =>
    obtain ⟨dx, vs, h1, h2, h3⟩ := h
    exact ⟨dx, vs, hx _ h1, hm _ h2, h3.imp k.v⟩
  | table es =>
    obtain ⟨ents, ⟨⟨dx, h1⟩, h2, h3⟩, h4, h5⟩ := h
    refine ⟨ents, ⟨⟨dx, hx _ h1⟩, ⟨hm _ h2.at_, fun e he => ⟨(h2.keys e he).1, k.t _ _ (h2.keys e he).2⟩, h2.len⟩, fun e he => ?_⟩, h4.imp k.v k.t, h5⟩
    obtain ⟨q, e1, v, e2⟩ := h3 e he
    exact ⟨q, e1, v, k.t _ _ e2⟩
  | inst o ns =>
    obtain ⟨dx, v, kvs, h1, h2, h3, h4⟩ := h
    exact ⟨dx, v, kvs, hx _ h1, k.v _ _ h2, hm _ h3, h4.imp k.v⟩
  | kin nm par ms =>
    obtain ⟨dx, v, kvs, h1, h2, h3, h4⟩ := h
    exact ⟨dx, v, kvs, hx _ h1, k.v _ _ h2, hm _ h3, h4.imp k.v⟩
def clsT (A : Ads) : Th → Addr
  | .parts _ => A.Parts
  | .table _ => A.Table
  | .inst _ _ => A.Instance
  | .kin _ _ _ => A.Kin
theorem ThAt.x {H : Hp} {x m : Addr} {th : Th} (h : ThAt P w A H x m th) : ∃ dx fs, H x = some (.ins (clsT A th) dx fs) := by
  cases th with
  | parts ds => obtain ⟨dx, vs, h1, _⟩ := h; exact ⟨_, _, h1⟩
  | table es => obtain ⟨ents, ⟨⟨dx, h1⟩, _, _⟩, _⟩ := h; exact ⟨_, _, h1⟩
  | inst o ns => obtain ⟨dx, v, kvs, h1, _⟩ := h; exact ⟨_, _, h1⟩
  | kin nm par ms => obtain ⟨dx, v, kvs, h1, _⟩ := h; exact ⟨_, _, h1⟩
theorem ThAt.m {H : Hp} {x m : Addr} {th : Th} (h : ThAt P w A H x m th) : ∃ u, H m = some u ∧ (∀ C dx fs, u ≠ .ins C dx fs) ∧ ∀ xs, u ≠ .tup xs := by
  cases th with
  | parts ds => obtain ⟨dx, vs, _, h1, _⟩ := h; exact ⟨_, h1, nofun, nofun⟩
  | table es => obtain ⟨ents, ⟨_, h2, _⟩, _⟩ := h; exact ⟨_, h2.at_, nofun, nofun⟩
  | inst o ns => obtain ⟨dx, v, kvs, _, _, h1, _⟩ := h; exact ⟨_, h1, nofun, nofun⟩
  | kin nm par ms => obtain ⟨dx, v, kvs, _, _, h1, _⟩ := h; exact ⟨_, h1, nofun, nofun⟩
theorem clsT_ne (L : Lib P K mg A) (th : Th) : clsT A th ≠ A.Ref ∧ clsT A th ≠ A.Builtin := by
  cases th with
  | parts ds => exact ⟨ne_cls L.k_Parts_Ref, ne_cls L.k_Parts_Builtin⟩
  | table es => exact ⟨ne_cls L.k_Table_Ref, ne_cls L.k_Table_Builtin⟩
  | inst o ns => exact ⟨ne_cls L.k_Instance_Ref, ne_cls L.k_Instance_Builtin⟩
  | kin nm par ms => exact ⟨ne_cls L.k_Kin_Ref, ne_cls L.k_Kin_Builtin⟩
/-! ### the store -/
structure St where
  things : List Th
  out : List Str
  lines : List Str
  taken : Nat
def stF (t o l : Addr) (n : Nat) : List (Str × V) := [("things", .ref t), ("output", .ref o), ("lines", .ref l), ("taken", .int (n : Nat))]
theorem st_things (t o l : Addr) (n : Nat) : (stF t o l n).lookup ("things" : Str) = some (.ref t) := lk_hit
theorem st_no {n : Str} (t o l : Addr) (k : Nat) (h1 : (n == ("things" : Str)) = false) (h2 : (n == ("output" : Str)) = false) (h3 : (n == ("lines" : Str)) = false) (h4 : (n == ("taken" : Str)) = false) : (stF t o l k).lookup n = none := by
  unfold stF
  rw [lk_skip h1, lk_skip h2, lk_skip h3, lk_skip h4]
  rfl
/-- the addresses of a store -/
structure Sa where
  s : Addr
  t : Addr
  o : Addr
  l : Addr
  X : List Addr
  M : List Addr
def Sa.own (a : Sa) (b : Addr) : Prop := b = a.s ∨ b = a.t ∨ b = a.o ∨ b = a.l ∨ b ∈ a.X ∨ b ∈ a.M
structure SM (P : Program) (w : World) (A : Ads) (H : Hp) (a : Sa) (S : St) : Prop where
  s_ : ∃ dx, H a.s = some (.ins A.Store dx (stF a.t a.o a.l S.taken))
  t_ : H a.t = some (.lst (a.X.map V.ref))
  o_ : H a.o = some (.lst (S.out.map V.str))
  l_ : H a.l = some (.lst (S.lines.map V.str))
  lx : a.X.length = S.things.length
  lm : a.M.length = S.things.length
  th : ∀ (i : Nat) x m d, a.X[i]? = some x → a.M[i]? = some m → S.things[i]? = some d → ThAt P w A H x m d
  nd : (a.t :: a.o :: a.l :: a.M).Nodup
  nx : a.X.Nodup
theorem SM.get {H : Hp} {a : Sa} {S : St} (h : SM P w A H a S) {i : Nat} {d : Th} (e : S.things[i]? = some d) : ∃ x m, a.X[i]? = some x ∧ a.M[i]? = some m ∧ ThAt P w A H x m d := by
  have hi := (List.getElem?_eq_some_iff.mp e).1
  have h1 : i < a.X.length := by rw [h.lx]; exact hi
  have h2 : i < a.M.length := by rw [h.lm]; exact hi
  exact ⟨a.X[i], a.M[i], List.getElem?_eq_getElem h1, List.getElem?_eq_getElem h2, h.th i _ _ d (List.getElem?_eq_getElem h1) (List.getElem?_eq_getElem h2) e⟩
theorem SM.xs {H : Hp} {a : Sa} {S : St} (h : SM P w A H a S) {x : Addr} (e : x ∈ a.X) : ∃ th m, ThAt P w A H x m th := by
  obtain ⟨i, hi, e⟩ := List.getElem_of_mem e
  have h1 : i < S.things.length := by rw [← h.lx]; exact hi
  obtain ⟨x', m, e1, e2, t⟩ := h.get (List.getElem?_eq_getElem h1)
  rw [List.getElem?_eq_getElem hi] at e1
  cases e1
  rw [e] at t
  exact ⟨_, m, t⟩
theorem SM.ms {H : Hp} {a : Sa} {S : St} (h : SM P w A H a S) {m : Addr} (e : m ∈ a.M) : ∃ th x, ThAt P w A H x m th := by
  obtain ⟨i, hi, e⟩ := List.getElem_of_mem e
  have h1 : i < S.things.length := by rw [← h.lm]; exact hi
  obtain ⟨x, m', e1, e2, t⟩ := h.get (List.getElem?_eq_getElem h1)
  rw [List.getElem?_eq_getElem hi] at e2
  cases e2
  rw [e] at t
  exact ⟨_, x, t⟩
/-- no value is the store's own -/
theorem SM.nv {H : Hp} {a : Sa} {S : St} (L : Lib P K mg A) (h : SM P w A H a S) {b : Addr} (hb : a.own b) : ∃ u, H b = some u ∧ (∀ dx fs, u ≠ .ins A.Ref dx fs) ∧ (∀ dx fs, u ≠ .ins A.Builtin dx fs) ∧ ∀ xs, u ≠ .tup xs := by
  rcases hb with rfl | rfl | rfl | rfl | hb | hb
  · obtain ⟨dx, e⟩ := h.s_
    refine ⟨_, e, fun _ _ z => ?_, fun _ _ z => ?_, nofun⟩
    · injection z with z; exact ne_cls L.k_Store_Ref z
    · injection z with z; exact ne_cls L.k_Store_Builtin z
  · exact ⟨_, h.t_, nofun, nofun, nofun⟩
  · exact ⟨_, h.o_, nofun, nofun, nofun⟩
  · exact ⟨_, h.l_, nofun, nofun, nofun⟩
  · obtain ⟨th, m, t⟩ := h.xs hb
    obtain ⟨dx, fs, e⟩ := t.x
    refine ⟨_, e, fun _ _ z => ?_, fun _ _ z => ?_, nofun⟩
    · injection z with z; exact (clsT_ne L th).1 z
    · injection z with z; exact (clsT_ne L th).2 z
  · obtain ⟨th, x, t⟩ := h.ms hb
    obtain ⟨u, e, h1, h2⟩ := t.m
    exact ⟨u, e, fun _ _ => h1 _ _ _, fun _ _ => h1 _ _ _, h2⟩
/-- what is not the store's own stays -/
def Fr (a : Sa) (H H' : Hp) : Prop := ∀ b u, H b = some u → ¬ a.own b → H' b = some u
theorem Fr.vk {H H' : Hp} {a : Sa} {S : St} (L : Lib P K mg A) (h : SM P w A H a S) (f : Fr a H H') : Vk A H H' := by
  have no : ∀ b, (∃ dx fs, H b = some (.ins A.Ref dx fs)) ∨ (∃ dx fs, H b = some (.ins A.Builtin dx fs)) ∨ (∃ xs, H b = some (.tup xs)) → ¬ a.own b := fun b e ho => by
    obtain ⟨u, e1, n1, n2, n3⟩ := h.nv L ho
    rcases e with ⟨dx, fs, e⟩ | ⟨dx, fs, e⟩ | ⟨xs, e⟩
    · exact n1 _ _ (Option.some.inj (e1.symm.trans e))
    · exact n2 _ _ (Option.some.inj (e1.symm.trans e))
    · exact n3 _ (Option.some.inj (e1.symm.trans e))
  refine ⟨fun v d hv => ?_, fun q xs e => f _ _ e (no _ (.inr (.inr ⟨_, e⟩)))⟩
  cases d with
  | obj n =>
    obtain ⟨b, dx, rfl, e⟩ := hv
    exact ⟨b, dx, rfl, f _ _ e (no _ (.inl ⟨_, _, e⟩))⟩
  | bi x =>
    obtain ⟨b, dx, rfl, e⟩ := hv
    exact ⟨b, dx, rfl, f _ _ e (no _ (.inr (.inl ⟨_, _, e⟩)))⟩
  | _ => exact hv
theorem SM.imp {H H' : Hp} {a : Sa} {S : St} (h : SM P w A H a S) (k : Vk A H H') (ho : ∀ b u, a.own b → H b = some u → H' b = some u) : SM P w A H' a S := by
  obtain ⟨dx, e⟩ := h.s_
  exact ⟨⟨dx, ho _ _ (.inl rfl) e⟩, ho _ _ (.inr (.inl rfl)) h.t_, ho _ _ (.inr (.inr (.inl rfl))) h.o_, ho _ _ (.inr (.inr (.inr (.inl rfl)))) h.l_, h.lx, h.lm,
    fun i x m d e1 e2 e3 => (h.th i x m d e1 e2 e3).imp k (fun u => ho _ u (.inr (.inr (.inr (.inr (.inl (List.mem_of_getElem? e1))))))) (fun u => ho _ u (.inr (.inr (.inr (.inr (.inr (List.mem_of_getElem? e2))))))), h.nd, h.nx⟩
theorem SM.same {H H' : Hp} {a : Sa} {S : St} (h : SM P w A H a S) (s : Same H H') : SM P w A H' a S := h.imp (Same.sv s).vk fun b u _ e => s b u e
theorem SM.keep {H H' : Hp} {a : Sa} {S : St} {p : Addr} {xs : List V} (h : SM P w A H a S) (k : Keep p H H') (hp : H p = some (.lst xs)) (np : ¬ a.own p) : SM P w A H' a S := h.imp (Keep.sv k hp).vk fun b u ho e => k b u e fun z => np (z ▸ ho)
theorem nodup_get {α : Type} : ∀ {l : List α} {i j : Nat} {x : α}, l.Nodup → l[i]? = some x → l[j]? = some x → i = j
  | [], _, _, _, _, h, _ => by simp at h
  | a :: l, 0, 0, _, _, _, _ => rfl
  | a :: l, 0, j + 1, x, n, h, g => by
    simp at h g
    subst h
    exact absurd (List.mem_of_getElem? g) (List.nodup_cons.mp n).1
  | a :: l, i + 1, 0, x, n, h, g => by
    simp at h g
    subst g
    exact absurd (List.mem_of_getElem? h) (List.nodup_cons.mp n).1
  | a :: l, i + 1, j + 1, x, n, h, g => by
    simp at h g
    rw [nodup_get (List.nodup_cons.mp n).2 h g]
/-- a thing more -/
theorem SM.push {H : Hp} {a : Sa} {S : St} {x m : Addr} {d : Th} (h : SM P w A H a S) (hd : ThAt P w A H x m d) (nx : x ∉ a.X) (nm : m ∉ a.t :: a.o :: a.l :: a.M) :
    SM P w A (upd H a.t (.lst ((a.X ++ [x]).map V.ref))) { a with X := a.X ++ [x], M := a.M ++ [m] } { S with things := S.things ++ [d] } := by
  have sv : Sv H (upd H a.t (.lst ((a.X ++ [x]).map V.ref))) := fun b u e n => by
    rw [upd_ne fun z => by rw [z, h.t_] at e; exact n _ (Option.some.inj e).symm]
    exact e
  have n3 := h.nd
  simp only [List.nodup_cons, List.mem_cons, not_or] at n3
  simp only [List.mem_cons, not_or] at nm
  have hnt : ∀ {b : Addr} {C dx : Addr} {fs : List (Str × V)}, H b = some (.ins C dx fs) → b ≠ a.t := fun e z => by
    rw [z, h.t_] at e
    cases e
  obtain ⟨dx, e⟩ := h.s_
  refine ⟨⟨dx, by rw [upd_ne (hnt e)]; exact e⟩, upd_same, by rw [upd_ne (fun z => n3.1.1 z.symm)]; exact h.o_, by rw [upd_ne (fun z => n3.1.2.1 z.symm)]; exact h.l_, by simp [h.lx], by simp [h.lm], ?_, ?_, ?_⟩
  · intro i x' m' d' e1 e2 e3
    have up : ∀ {x m : Addr} {d : Th}, ThAt P w A H x m d → m ≠ a.t → ThAt P w A (upd H a.t (.lst ((a.X ++ [x]).map V.ref))) x m d → True := fun _ _ _ => trivial
    have go : ∀ {y n : Addr} {g : Th}, ThAt P w A H y n g → n ≠ a.t → ThAt P w A (upd H a.t (.lst ((a.X ++ [x]).map V.ref))) y n g := fun {y n g} t hn => by
      obtain ⟨dy, fs, ey⟩ := t.x
      exact t.imp sv.vk (fun u e => by rw [upd_ne (hnt ey)]; exact e) (fun u e => by rw [upd_ne hn]; exact e)
    by_cases hi : i < S.things.length
    · have e1' : a.X[i]? = some x' := by
        have e1 : (a.X ++ [x])[i]? = some x' := e1
        rw [List.getElem?_append_left (by rw [h.lx]; exact hi)] at e1
        exact e1
      have e2' : a.M[i]? = some m' := by
        have e2 : (a.M ++ [m])[i]? = some m' := e2
        rw [List.getElem?_append_left (by rw [h.lm]; exact hi)] at e2
        exact e2
      have e3' : S.things[i]? = some d' := by
        have e3 : (S.things ++ [d])[i]? = some d' := e3
        rw [List.getElem?_append_left hi] at e3
        exact e3
      exact go (h.th i x' m' d' e1' e2' e3') fun z => n3.1.2.2 (z ▸ List.mem_of_getElem? e2')
    · have hl := (List.getElem?_eq_some_iff.mp e3).1
      rw [List.length_append, List.length_singleton] at hl
      have hi' : i = S.things.length := by omega
      subst hi'
      have e1 : (a.X ++ [x])[S.things.length]? = some x' := e1
      have e2 : (a.M ++ [m])[S.things.length]? = some m' := e2
      have e3 : (S.things ++ [d])[S.things.length]? = some d' := e3
      rw [← h.lx, List.getElem?_append_right (Nat.le_refl _), Nat.sub_self] at e1
      rw [← h.lm, List.getElem?_append_right (Nat.le_refl _), Nat.sub_self] at e2
      rw [List.getElem?_append_right (Nat.le_refl _), Nat.sub_self] at e3
      cases e1
      cases e2
      cases e3
      exact go hd nm.1
  · have : (a.t :: a.o :: a.l :: a.M ++ [m]).Nodup := by
      rw [List.nodup_append]
      refine ⟨h.nd, by simp, fun y hy z hz => ?_⟩
      rw [List.mem_singleton] at hz
      subst hz
      intro q
      subst q
      simp only [List.mem_cons] at hy
      rcases hy with q | q | q | q
      · exact nm.1 q
      · exact nm.2.1 q
      · exact nm.2.2.1 q
      · exact nm.2.2.2 q
    exact this
  · show (a.X ++ [x]).Nodup
    rw [List.nodup_append]
    refine ⟨h.nx, by simp, fun y hy z hz => ?_⟩
    rw [List.mem_singleton] at hz
    subst hz
    exact fun q => nx (q ▸ hy)
end
end My
namespace My
open PySem L2 SX XT XS XE
open C8 (pss_cut tCut cutS_slice pe_gc)
section
variable {P : Program} {w : World} {K : PySem.W.Frag} {mg : Str → Option Value} {base : Heap} {A : Ads}
/-! ### the classes' __init__ -/
def spHI (C : Addr) (n : Str) (K : PySem.W.Frag) : Sp := fun vs H Q _ => ∃ x dx l xs, vs = [.ref x, .ref l] ∧ H x = some (.ins C dx []) ∧ SqL K H l xs ∧ ∀ H' m, Keep x H H' → H' x = some (.ins C dx [(n, .ref m)]) → H m = none → H' m = some (.lst xs) → Q .non H'
theorem ok_Parts_init (L : Lib P K mg A) : FnOk P w K mg base CX0 1 L.Parts_init.f L.Parts_init.fd ["self", "held"] (spHI A.Parts "held" K) := by
  refine L.Parts_init.F.ok sc_Parts_init (fun vs H Q E h => ?_) (fun cdv A' outer s H vs Q E hr h => ?_)
  · obtain ⟨x, dx, l, xs, rfl, _⟩ := h
    rfl
  · obtain ⟨x, dx, l, xs, rfl, hx, hl, q⟩ := h
    refine ⟨_, (pss_one (ps_fld (pv 0) (pe_callTy call_list_of (by rfl) L.z_list (by decide +kernel) (pa_cons (pv 1) pa_nil)) rfl)), ?_⟩
    refine ⟨_, rfl, l, xs, rfl, .inl hl, fun m hm => ⟨_, rfl, x, A.Parts, dx, [], rfl, (by rw [upd_ne (ne_of_none hx hm)]; exact hx), L.c_Parts.cl, L.n_Parts_held, (by show 0 < 1000; decide), ?_⟩⟩
    have nmx : m ≠ x := (ne_of_none hx hm).symm
    exact q _ m (fun b o e n => by rw [upd_ne n, upd_ne (ne_of_none e hm)]; exact e) upd_same hm (by rw [upd_ne nmx]; exact upd_same)
def spKI (A : Ads) : Sp := fun vs H Q _ => ∃ x dx v1 v2, vs = [.ref x, v1, v2] ∧ H x = some (.ins A.Kin dx []) ∧ ∀ H' m, Keep x H H' → H' x = some (.ins A.Kin dx [("name", v1), ("parent", v2), ("methods", .ref m)]) → H m = none → H' m = some (.dK []) → Q .non H'
theorem ok_Kin_init (L : Lib P K mg A) : FnOk P w K mg base CX0 1 L.Kin_init.f L.Kin_init.fd ["self", "name", "parent"] (spKI A) := by
  refine L.Kin_init.F.ok sc_Kin_init (fun vs H Q E h => ?_) (fun cdv A' outer s H vs Q E hr h => ?_)
  · obtain ⟨x, dx, v1, v2, rfl, _⟩ := h
    rfl
  · obtain ⟨x, dx, v1, v2, rfl, hx, q⟩ := h
    refine ⟨_, (pss_cons (ps_fld (pv 0) (pv 1) rfl)
      (pss_cons (ps_fld (pv 0) (pv 2) rfl)
      (pss_one (ps_fld (pv 0) pe_dnewK rfl)))), ?_⟩
    refine ⟨_, rfl, _, rfl, x, A.Kin, dx, _, rfl, hx, L.c_Kin.cl, L.n_Kin_name, (by show 0 < 1000; decide), ?_⟩
    refine ⟨_, rfl, _, rfl, x, A.Kin, dx, _, rfl, upd_same, L.c_Kin.cl, L.n_Kin_parent, (by show 1 < 1000; decide), ?_⟩
    refine fun m hm => ?_
    have nmx : x ≠ m := ne_of_none upd_same hm
    refine ⟨_, rfl, x, A.Kin, dx, _, rfl, (by rw [upd_ne nmx]; exact upd_same), L.c_Kin.cl, L.n_Kin_methods, (by show 2 < 1000; decide), ?_⟩
    refine q _ m (fun b o e n => by rw [upd_ne n, upd_ne (ne_of_none (H := upd (upd H x _) x _) (by rw [upd_ne n, upd_ne n]; exact e) hm), upd_ne n, upd_ne n]; exact e) upd_same ?_ (by rw [upd_ne nmx.symm]; exact upd_same)
    rw [upd_ne nmx.symm, upd_ne nmx.symm] at hm
    exact hm
/-- a new part is made and a field of the object at a is set -/
structure Two (H H2 : Hp) (t a : Addr) (U I : HO) : Prop where
  kk : ∀ b u, H b = some u → b ≠ a → H2 b = some u
  tt : H2 t = some U
  aa : H2 a = some I
  nn : ∀ b, H2 b = none → H b = none
  na : t ≠ a
  nt : H t = none
theorem two {H : Hp} {t a : Addr} {U I I0 : HO} (nt : H t = none) (ha : H a = some I0) : Two H (upd (upd H t U) a I) t a U I := by
  have nta : t ≠ a := (ne_of_none ha nt).symm
  refine ⟨fun b u e n => by rw [upd_ne n, upd_ne (ne_of_none e nt)]; exact e, by rw [upd_ne nta]; exact upd_same, upd_same, fun b e => ?_, nta, nt⟩
  by_cases h1 : b = a
  · rw [h1, upd_same] at e; cases e
  · rw [upd_ne h1] at e
    by_cases h2 : b = t
    · rw [h2, upd_same] at e; cases e
    · rw [upd_ne h2] at e; exact e
def stO (ls : List Str) : St := ⟨[.kin "Error" .non []], [], ls, 0⟩
def spSI (P : Program) (w : World) (K : PySem.W.Frag) (A : Ads) : Sp := fun vs H Q _ => ∃ a dx l ls, vs = [.ref a, .ref l] ∧ H a = some (.ins A.Store dx []) ∧ SqL K H l (ls.map V.str) ∧ l ≠ a ∧ ∀ H' (sa : Sa), sa.s = a → Keep a H H' → SM P w A H' sa (stO ls) → (∀ b, sa.own b → b = a ∨ H b = none) → Q .non H'
theorem ok_Store_init (L : Lib P K mg A) : FnOk P w K mg base CX0 3 L.Store_init.f L.Store_init.fd ["self", "lines"] (spSI P w K A) := by
  have G_Kin_init : FnOk P w K mg base CX0 1 L.Kin_init.f L.Kin_init.fd ["self", "name", "parent"] (spKI A) := ok_Kin_init L
  refine L.Store_init.F.ok sc_Store_init (fun vs H Q E h => ?_) (fun cdv A' outer s H vs Q E hr h => ?_)
  · obtain ⟨a, dx, l, ls, rfl, _⟩ := h
    rfl
  · obtain ⟨a, dx, l, ls, rfl, ha, hl, hla, q⟩ := h
    refine ⟨_, (pss_cons (ps_fld (pv 0) (pe_lst (pa_cons (pe_make L.Kin_init.m G_Kin_init (hr.mono (by omega)) (by rfl) L.c_Kin.g L.Kin_init.b .nil pass0 (pa_cons pe_str (pa_cons pe_non pa_nil))) pa_nil)) rfl)
      (pss_cons (ps_fld (pv 0) (pe_lst pa_nil) rfl)
      (pss_cons (ps_fld (pv 0) (pe_callTy call_list_of (by rfl) L.z_list (by decide +kernel) (pa_cons (pv 1) pa_nil)) rfl)
      (pss_one (ps_fld (pv 0) pe_int rfl))))), ?_⟩
    intro y dy ny ndy nyd
    refine ⟨y, dy, _, _, rfl, upd_same, fun H1 m k1 hy nm hm => ⟨rfl, ?_⟩⟩
    have s1 : Same H H1 := Same.made ny ndy k1
    have ha1 := s1 _ _ ha
    have nya : y ≠ a := fun z => by rw [z, ha] at ny; cases ny
    have nm0 : H m = none := by
      by_cases h1 : m = y
      · rw [h1]; exact ny
      · by_cases h2 : m = dy
        · rw [h2]; exact ndy
        · rw [upd_ne h1, upd_ne h2] at nm; exact nm
    have nma : m ≠ a := fun z => by rw [z, ha] at nm0; cases nm0
    refine ⟨(by show 1 ≤ sizeLine; decide), fun t nt => ?_⟩
    refine ⟨_, rfl, a, A.Store, dx, [], rfl, (by rw [upd_ne (ne_of_none ha1 nt)]; exact ha1), L.c_Store.cl, L.n_Store_things, (by show 0 < 1000; decide), ?_⟩
    have T1 := two (U := .lst [.ref y]) (I := .ins A.Store dx (putF "things" (V.ref t) [])) nt ha1
    generalize upd (upd H1 t (.lst [V.ref y])) a (.ins A.Store dx (putF "things" (V.ref t) [])) = H2 at T1 ⊢
    refine ⟨Nat.zero_le _, fun o no => ?_⟩
    refine ⟨_, rfl, a, A.Store, dx, _, rfl, (by rw [upd_ne (ne_of_none T1.aa no)]; exact T1.aa), L.c_Store.cl, L.n_Store_output, (by show 1 < 1000; decide), ?_⟩
    have T2 := two (U := .lst []) (I := .ins A.Store dx (putF "output" (V.ref o) (putF "things" (V.ref t) []))) no T1.aa
    generalize upd (upd H2 o (.lst [])) a (.ins A.Store dx (putF "output" (V.ref o) (putF "things" (V.ref t) []))) = H3 at T2 ⊢
    have k13 : ∀ b u, H b = some u → b ≠ a → H3 b = some u := fun b u e n => T2.kk _ _ (T1.kk _ _ (s1 _ _ e) n) n
    have hl3 : SqL K H3 l (ls.map V.str) := by
      rcases hl with (hl | ⟨ob, hl⟩) | hl
      · exact .inl (.inl (k13 _ _ hl hla))
      · exact .inl (.inr ⟨ob, k13 _ _ hl hla⟩)
      · exact .inr hl
    refine ⟨_, rfl, l, _, rfl, .inl hl3, fun lm nlm => ?_⟩
    refine ⟨_, rfl, a, A.Store, dx, _, rfl, (by rw [upd_ne (ne_of_none T2.aa nlm)]; exact T2.aa), L.c_Store.cl, L.n_Store_lines, (by show 2 < 1000; decide), ?_⟩
    refine ⟨_, rfl, a, A.Store, dx, _, rfl, upd_same, L.c_Store.cl, L.n_Store_taken, (by show 3 < 1000; decide), ?_⟩
    have T3 := two (U := .lst (ls.map V.str)) (I := .ins A.Store dx (putF "lines" (V.ref lm) (putF "output" (V.ref o) (putF "things" (V.ref t) [])))) nlm T2.aa
    generalize upd (upd H3 lm (.lst (ls.map V.str))) a (.ins A.Store dx (putF "lines" (V.ref lm) (putF "output" (V.ref o) (putF "things" (V.ref t) [])))) = H4 at T3 ⊢
    have kF : ∀ {b : Addr} {u : HO}, H4 b = some u → b ≠ a → upd H4 a (.ins A.Store dx (putF "taken" (V.int 0) (putF "lines" (V.ref lm) (putF "output" (V.ref o) (putF "things" (V.ref t) []))))) b = some u := fun e n => by rw [upd_ne n]; exact e
    have ht4 := T3.kk _ _ (T2.kk _ _ T1.tt T1.na) T1.na
    have ho4 := T3.kk _ _ T2.tt T2.na
    have hy4 := T3.kk _ _ (T2.kk _ _ (T1.kk _ _ hy nya) nya) nya
    have hm4 := T3.kk _ _ (T2.kk _ _ (T1.kk _ _ hm nma) nma) nma
    refine q _ ⟨a, t, o, lm, [y], [m]⟩ rfl (fun b u e n => kF (T3.kk _ _ (k13 _ _ e n) n) n) ⟨⟨dx, upd_same⟩, kF ht4 T1.na, kF ho4 T2.na, kF T3.tt T3.na, rfl, rfl, ?_, ?_, by simp⟩ ?_
    · intro i x' m' d' e1 e2 e3
      match i, e1, e2, e3 with
      | 0, e1, e2, e3 =>
        cases e1
        cases e2
        cases e3
        exact ⟨_, .non, [], kF hy4 nya, rfl, kF hm4 nma, trivial⟩
      | i + 1, e1, e2, e3 => simp at e1
    · have hm1 := hm
      have n1 : t ≠ m := (ne_of_none hm1 nt).symm
      have n2 : t ≠ o := ne_of_none T1.tt no
      have n3 : t ≠ lm := ne_of_none (T2.kk _ _ T1.tt T1.na) nlm
      have n4 : o ≠ m := (ne_of_none (T1.kk _ _ hm1 nma) no).symm
      have n5 : o ≠ lm := ne_of_none T2.tt nlm
      have n6 : lm ≠ m := (ne_of_none (T2.kk _ _ (T1.kk _ _ hm1 nma) nma) nlm).symm
      simp [n1, n2, n3, n4, n5, n6]
    · intro b hb
      rcases hb with rfl | rfl | rfl | rfl | hb | hb
      · exact .inl rfl
      · exact .inr (s1.free nt)
      · exact .inr (s1.free (T1.nn _ no))
      · exact .inr (s1.free (T1.nn _ (T2.nn _ nlm)))
      · rw [List.mem_singleton] at hb
        subst hb
        exact .inr ny
      · rw [List.mem_singleton] at hb
        subst hb
        exact .inr nm0
/-! ### make, at -/
def spMake (P : Program) (w : World) (A : Ads) : Sp := fun vs H Q _ => ∃ (a : Sa) (S : St) (x m : Addr) (d : Th), vs = [.ref a.s, .ref x] ∧ SM P w A H a S ∧ ThAt P w A H x m d ∧ x ∉ a.X ∧ m ∉ a.t :: a.o :: a.l :: a.M ∧ S.things.length < 100000 ∧
  ∀ H' r, Keep a.t H H' → SM P w A H' { a with X := a.X ++ [x], M := a.M ++ [m] } { S with things := S.things ++ [d] } → H r = none → Has A H' (.ref r) (.obj S.things.length) → Q (.ref r) H'
theorem ok_Store_make (L : Lib P K mg A) : FnOk P w K mg base CX0 3 L.Store_make.f L.Store_make.fd ["self", "thing"] (spMake P w A) := by
  have G_Ref_init : FnOk P w K mg base CX0 1 L.Ref_init.f L.Ref_init.fd ["self", "number"] (spI1 A.Ref "number") := ok_Ref_init L
  refine L.Store_make.F.ok sc_Store_make (fun vs H Q E h => ?_) (fun cdv A' outer s H vs Q E hr h => ?_)
  · obtain ⟨a, S, x, m, d, rfl, _⟩ := h
    rfl
  · obtain ⟨a, S, x, m, d, rfl, hS, hd, nx, nm, hl, q⟩ := h
    refine ⟨_, (pss_cons (ps_expr (pe_bm PySem.F.plainAttrs_list PySem.F.slot_list_append PySem.F.type_list_append mt_append (pe_fld (pv 0) rfl) (pa_cons (pv 1) pa_nil)))
      (pss_one (ps_ret (pe_make L.Ref_init.m G_Ref_init (hr.mono (by omega)) (by rfl) L.c_Ref.g L.Ref_init.b .nil pass0 (pa_cons (pe_op op_sub (pe_callB call_len_seq (by rfl) L.z_len PySem.boot_len (pa_cons (pe_fld (pv 0) rfl) pa_nil)) pe_int) pa_nil))))), ?_⟩
    obtain ⟨dx, h1⟩ := hS.s_
    have hlx := hS.lx
    have nst : a.s ≠ a.t := fun z => by rw [z, hS.t_] at h1; cases h1
    refine ⟨_, rfl, a.s, A.Store, dx, _, _, rfl, h1, L.c_Store.cl, L.n_Store_things, st_things _ _ _ _, .inl ⟨rfl, _, SqL.of hS.t_⟩, _, rfl, a.t, _, _, rfl, rfl, hS.t_, Nat.lt_of_le_of_lt (m := 100000) (by rw [List.length_map]; omega) (by decide), ?_⟩
    have e : a.X.map V.ref ++ [V.ref x] = (a.X ++ [x]).map V.ref := by rw [List.map_append]; rfl
    rw [e]
    have P1 := hS.push hd nx nm
    have K1 : Keep a.t H (upd H a.t (.lst ((a.X ++ [x]).map V.ref))) := keep_upd
    refine ⟨_, rfl, a.s, A.Store, dx, _, _, rfl, K1 _ _ h1 nst, L.c_Store.cl, L.n_Store_things, st_things _ _ _ _, a.t, _, rfl, .inl (SqL.of upd_same), _, _, rfl, rfl, ?_⟩
    intro r dr nr ndr ndrr
    refine ⟨r, dr, _, rfl, upd_same, fun H1 k1 hR1 => ⟨rfl, ?_⟩⟩
    have s1 := Same.made nr ndr k1
    have nrt : r ≠ a.t := fun z => by rw [z, upd_same] at nr; cases nr
    refine q _ r (fun b ob e n => s1 _ _ (K1 _ _ e n)) (P1.same s1) (by rw [upd_ne nrt] at nr; exact nr) ⟨r, dr, rfl, ?_⟩
    have : ((((a.X ++ [x]).map V.ref).length : Nat) : Int) - 1 = (S.things.length : Nat) := by
      rw [List.length_map, List.length_append, List.length_singleton]
      omega
    show H1 r = some (.ins A.Ref dr [("number", .int (S.things.length : Nat))])
    rw [← this]
    exact hR1
def spAt (P : Program) (w : World) (A : Ads) : Sp := fun vs H Q _ => ∃ (a : Sa) (S : St) (r x : Addr) (i : Nat), vs = [.ref a.s, .ref r] ∧ SM P w A H a S ∧ Has A H (.ref r) (.obj i) ∧ a.X[i]? = some x ∧ Q (.ref x) H
theorem ok_Store_at (L : Lib P K mg A) : FnOk P w K mg base CX0 1 L.Store_at.f L.Store_at.fd ["self", "ref"] (spAt P w A) := by
  refine L.Store_at.F.ok sc_Store_at (fun vs H Q E h => ?_) (fun cdv A' outer s H vs Q E hr h => ?_)
  · obtain ⟨a, S, r, x, i, rfl, _⟩ := h
    rfl
  · obtain ⟨a, S, r, x, i, rfl, hS, ⟨b, dr, e, hR⟩, hi, q⟩ := h
    cases e
    refine ⟨_, (pss_one (ps_ret (pe_ix ix_list (pe_fld (pv 0) rfl) (pe_fld (pv 1) rfl) (fun _ _ => rfl)))), ?_⟩
    obtain ⟨dx, h1⟩ := hS.s_
    exact ⟨_, rfl, a.s, A.Store, dx, _, _, rfl, h1, L.c_Store.cl, L.n_Store_things, st_things _ _ _ _, _, rfl, r, A.Ref, dr, _, _, rfl, hR, L.c_Ref.cl, L.n_Ref_number, lk_hit, a.t, _, _, .ref x, rfl, rfl, SqL.of hS.t_, atI_nat (by rw [List.getElem?_map, hi]; rfl), q⟩
/-! ### kinds -/
def tP : Th → Bool
  | .parts _ => true
  | _ => false
def tT : Th → Bool
  | .table _ => true
  | _ => false
def tI : Th → Bool
  | .inst _ _ => true
  | _ => false
def tK : Th → Bool
  | .kin _ _ _ => true
  | _ => false
theorem kit_P (L : Lib P K mg A) (d : Th) : PySem.W.kitOne K (.ref (clsT A d)) (.ref A.Parts) = some (tP d) := by
  cases d with
  | parts ds => exact kit_self _
  | table es => exact L.k_Table_Parts
  | inst o ns => exact L.k_Instance_Parts
  | kin nm par ms => exact L.k_Kin_Parts
theorem kit_T (L : Lib P K mg A) (d : Th) : PySem.W.kitOne K (.ref (clsT A d)) (.ref A.Table) = some (tT d) := by
  cases d with
  | parts ds => exact L.k_Parts_Table
  | table es => exact kit_self _
  | inst o ns => exact L.k_Instance_Table
  | kin nm par ms => exact L.k_Kin_Table
theorem kit_I (L : Lib P K mg A) (d : Th) : PySem.W.kitOne K (.ref (clsT A d)) (.ref A.Instance) = some (tI d) := by
  cases d with
  | parts ds => exact L.k_Parts_Instance
  | table es => exact L.k_Table_Instance
  | inst o ns => exact kit_self _
  | kin nm par ms => exact L.k_Kin_Instance
theorem kit_K (L : Lib P K mg A) (d : Th) : PySem.W.kitOne K (.ref (clsT A d)) (.ref A.Kin) = some (tK d) := by
  cases d with
  | parts ds => exact L.k_Parts_Kin
  | table es => exact L.k_Table_Kin
  | inst o ns => exact L.k_Instance_Kin
  | kin nm par ms => exact kit_self _
theorem th_ty (L : Lib P K mg A) {H : Hp} {x m : Addr} {d : Th} (h : ThAt P w A H x m d) : TyX K H (.ref x) (.ref (clsT A d)) := by
  obtain ⟨dx, fs, e⟩ := h.x
  cases d with
  | parts ds => exact L.c_Parts.ty e
  | table es => exact L.c_Table.ty e
  | inst o ns => exact L.c_Instance.ty e
  | kin nm par ms => exact L.c_Kin.ty e
def kindT : Th → Str
  | .parts _ => "list"
  | .table _ => "map"
  | .inst _ _ => "instance"
  | .kin _ _ _ => "class"
def spKT (P : Program) (w : World) (A : Ads) : Sp := fun vs H Q _ => ∃ x m d, vs = [.ref x] ∧ ThAt P w A H x m d ∧ Q (.str (kindT d)) H
theorem ok_kind_of_thing (L : Lib P K mg A) : FnOk P w K mg base CX0 1 L.kind_of_thing.f L.kind_of_thing.fd ["thing"] (spKT P w A) := by
  refine L.kind_of_thing.F.ok sc_kind_of_thing (fun vs H Q E h => ?_) (fun cdv A' outer s H vs Q E hr h => ?_)
  · obtain ⟨x, m, d, rfl, _⟩ := h
    rfl
  · obtain ⟨x, m, d, rfl, hd, q⟩ := h
    refine ⟨_, (pss_cons (ps_if (pt_val (pe_callB call_isi (by rfl) L.z_isinstance (by decide +kernel) (pa_cons (pv 0) (pa_cons (pe_gc (v := .ref A.Parts) (by rfl) ⟨_, L.c_Parts.g, rfl⟩) pa_nil))))
        (pss_one (ps_ret pe_str))
        pss_nil)
      (pss_cons (ps_if (pt_val (pe_callB call_isi (by rfl) L.z_isinstance (by decide +kernel) (pa_cons (pv 0) (pa_cons (pe_gc (v := .ref A.Table) (by rfl) ⟨_, L.c_Table.g, rfl⟩) pa_nil))))
        (pss_one (ps_ret pe_str))
        pss_nil)
      (pss_cons (ps_if (pt_val (pe_callB call_isi (by rfl) L.z_isinstance (by decide +kernel) (pa_cons (pv 0) (pa_cons (pe_gc (v := .ref A.Instance) (by rfl) ⟨_, L.c_Instance.g, rfl⟩) pa_nil))))
        (pss_one (ps_ret pe_str))
        pss_nil)
      (pss_cons (ps_if (pt_val (pe_callB call_isi (by rfl) L.z_isinstance (by decide +kernel) (pa_cons (pv 0) (pa_cons (pe_gc (v := .ref A.Kin) (by rfl) ⟨_, L.c_Kin.g, rfl⟩) pa_nil))))
        (pss_one (ps_ret pe_str))
        pss_nil)
      (pss_one (ps_ret pe_str)))))), ?_⟩
    have ty := th_ty L hd
    refine ⟨_, rfl, _, .ref A.Parts, _, .ref A.Parts, _, rfl, .own _, ty, kit_P L d, _, rfl, ite_or (fun e => ?_) fun e1 => ?_⟩
    · cases d <;> first | exact q | (cases e; done)
    refine ⟨_, rfl, _, .ref A.Table, _, .ref A.Table, _, rfl, .own _, ty, kit_T L d, _, rfl, ite_or (fun e => ?_) fun e2 => ?_⟩
    · cases d <;> first | exact q | (cases e; done)
    refine ⟨_, rfl, _, .ref A.Instance, _, .ref A.Instance, _, rfl, .own _, ty, kit_I L d, _, rfl, ite_or (fun e => ?_) fun e3 => ?_⟩
    · cases d <;> first | exact q | (cases e; done)
    refine ⟨_, rfl, _, .ref A.Kin, _, .ref A.Kin, _, rfl, .own _, ty, kit_K L d, _, rfl, ite_or (fun e => ?_) fun e4 => ?_⟩
    · cases d <;> first | exact q | (cases e; done)
    cases d <;> first | exact q | (cases e1; done) | (cases e2; done) | (cases e3; done) | (cases e4; done)
def kindD (S : St) : Dv → Str
  | .non => "null"
  | .bl _ => "boolean"
  | .int _ => "integer"
  | .str _ => "text"
  | .bi _ => "function"
  | .obj n => match S.things[n]? with
    | some d => kindT d
    | none => "function"
def okV (S : St) : Dv → Prop
  | .obj n => n < S.things.length
  | _ => True
def spKO (P : Program) (w : World) (A : Ads) : Sp := fun vs H Q _ => ∃ (a : Sa) (S : St) (v : V) (d : Dv), vs = [.ref a.s, v] ∧ SM P w A H a S ∧ Has A H v d ∧ okV S d ∧ Q (.str (kindD S d)) H
theorem ok_kind_of (L : Lib P K mg A) : FnOk P w K mg base CX0 2 L.kind_of.f L.kind_of.fd ["store", "value"] (spKO P w A) := by
  have G_kind_of_thing : FnOk P w K mg base CX0 1 L.kind_of_thing.f L.kind_of_thing.fd ["thing"] (spKT P w A) := ok_kind_of_thing L
  have G_Store_at : FnOk P w K mg base CX0 1 L.Store_at.f L.Store_at.fd ["self", "ref"] (spAt P w A) := ok_Store_at L
  refine L.kind_of.F.ok sc_kind_of (fun vs H Q E h => ?_) (fun cdv A' outer s H vs Q E hr h => ?_)
  · obtain ⟨a, S, v, d, rfl, _⟩ := h
    rfl
  · obtain ⟨a, S, v, d, rfl, hS, hv, ho, q⟩ := h
    refine ⟨_, (pss_cons (ps_if (pt_cmpR op_isN (pv 1) pe_non (nomark _))
        (pss_one (ps_ret pe_str))
        pss_nil)
      (pss_cons (ps_if (pt_val (pe_callB call_isi (by rfl) L.z_isinstance (by decide +kernel) (pa_cons (pv 1) (pa_cons (pe_bltn (v := .ty "bool") (by rfl) L.z_bool (by decide +kernel) rfl) pa_nil))))
        (pss_one (ps_ret pe_str))
        pss_nil)
      (pss_cons (ps_if (pt_val (pe_callB call_isi (by rfl) L.z_isinstance (by decide +kernel) (pa_cons (pv 1) (pa_cons (pe_bltn (v := .ty "int") (by rfl) L.z_int (by decide +kernel) rfl) pa_nil))))
        (pss_one (ps_ret pe_str))
        pss_nil)
      (pss_cons (ps_if (pt_val (pe_callB call_isi (by rfl) L.z_isinstance (by decide +kernel) (pa_cons (pv 1) (pa_cons (pe_bltn (v := .ty "str") (by rfl) L.z_str (by decide +kernel) rfl) pa_nil))))
        (pss_one (ps_ret pe_str))
        pss_nil)
      (pss_cons (ps_if (pt_val (pe_callB call_isi (by rfl) L.z_isinstance (by decide +kernel) (pa_cons (pv 1) (pa_cons (pe_gc (v := .ref A.Ref) (by rfl) ⟨_, L.c_Ref.g, rfl⟩) pa_nil))))
        (pss_one (ps_ret (pe_call G_kind_of_thing (hr.mono (by omega)) (by rfl) L.kind_of_thing.g L.kind_of_thing.F.kp L.kind_of_thing.b .nil pass0 (pa_cons (pe_meth (pv 0) L.c_Store.cl L.Store_at.m G_Store_at (hr.mono (by omega)) L.Store_at.b .nil pass0 (pa_cons (pv 1) pa_nil)) pa_nil))))
        pss_nil)
      (pss_one (ps_ret pe_str))))))), ?_⟩
    have ty := has_ty L hv
    have isn : decide (v = V.non) = decide (d = .non) := by
      cases d with
      | non => cases hv; rfl
      | obj n => obtain ⟨b, dx, rfl, _⟩ := hv; rfl
      | bi n => obtain ⟨b, dx, rfl, _⟩ := hv; rfl
      | _ => cases hv; rfl
    refine ⟨_, rfl, rfl, _, rfl, ite_or (fun e => ?_) fun e0 => ?_⟩
    · rw [isn] at e
      have : d = .non := of_decide_eq_true e
      subst this
      exact q
    rw [isn] at e0
    refine ⟨_, rfl, v, .ty "bool", _, _, _, rfl, .ty _, ty, kit_bool L d, _, rfl, ite_or (fun e => ?_) fun e1 => ?_⟩
    · cases d <;> first | exact q | (cases e; done)
    refine ⟨_, rfl, v, .ty "int", _, _, _, rfl, .ty _, ty, kit_int L d, _, rfl, ite_or (fun e => ?_) fun e2 => ?_⟩
    · cases d <;> first | exact q | (cases e; done) | (cases e1; done)
    refine ⟨_, rfl, v, .ty "str", _, _, _, rfl, .ty _, ty, kit_str L d, _, rfl, ite_or (fun e => ?_) fun e3 => ?_⟩
    · cases d <;> first | exact q | (cases e; done)
    refine ⟨_, rfl, v, .ref A.Ref, _, .ref A.Ref, _, rfl, .own _, ty, kit_R L d, _, rfl, ite_or (fun e => ?_) fun e4 => ?_⟩
    · cases d with
      | obj n =>
        obtain ⟨th, hth⟩ : ∃ th, S.things[n]? = some th := ⟨_, List.getElem?_eq_getElem ho⟩
        obtain ⟨x, m, hx, hm, ht⟩ := hS.get hth
        obtain ⟨dx, h1⟩ := hS.s_
        have q' : Q (.str (kindT th)) H := by
          have : kindD S (.obj n) = kindT th := by
            show (match S.things[n]? with
              | some d => kindT d
              | none => "function") = kindT th
            rw [hth]
          rw [← this]
          exact q
        obtain ⟨b, db, rfl, hb⟩ := hv
        exact ⟨_, rfl, a.s, dx, _, rfl, h1, st_no _ _ _ _ (by decide +kernel) (by decide +kernel) (by decide +kernel) (by decide +kernel), _, rfl, a, S, b, x, n, rfl, hS, ⟨b, db, rfl, hb⟩, hx, x, m, th, rfl, ht, q'⟩
      | _ => cases e
    cases d <;> first | exact q | (cases e0; done) | (cases e1; done) | (cases e2; done) | (cases e3; done) | (cases e4; done)
end
end My
namespace My
open PySem L2 SX XT XS XE
open C8 (pss_cut tCut cutS_slice pe_gc)
def Err (E : XK) (cE : Addr) (H : Hp) (k m : Str) : Prop := ∀ d, H d = none → E (.ref cE) (some d) (upd H d (.xd [("message", .str m), ("kind", .str k)]))
/-! ### entries -/
def valE (es : List (Dv × Dv)) (k : Dv) : Option Dv := (es.find? fun p => decide (p.1 = k)).map (·.2)
def putE (es : List (Dv × Dv)) (k v : Dv) : List (Dv × Dv) := if (valE es k).isSome = true then es.map (fun p => if p.1 = k then (p.1, v) else p) else es ++ [(k, v)]
theorem Ents.len {A : Ads} {H : Hp} : ∀ {es : List Ent} {ps : List (Dv × Dv)}, Ents A H es ps → es.length = ps.length
  | [], [], _ => rfl
  | _ :: _, _ :: _, h => congrArg (· + 1) (Ents.len h.2)
  | [], _ :: _, h => h.elim
  | _ :: _, [], h => h.elim
theorem Ents.val {A : Ads} {H : Hp} {k : Dv} (hk : keyD k = true) : ∀ {es : List Ent} {ps : List (Dv × Dv)}, Ents A H es ps → (valT es (toV k)).isSome = (valE ps k).isSome
  | [], [], _ => rfl
  | e :: es, p :: ps, h => by
    have ih := Ents.val hk h.2
    unfold valT valE at ih ⊢
    rw [List.find?_cons, List.find?_cons]
    have : decide (e.1 = toV k) = decide (p.1 = k) := by
      rw [decide_eq_decide, h.1.2.1]
      exact ⟨fun z => toV_inj h.1.1 hk z, fun z => by rw [z]⟩
    rw [this]
    by_cases c : p.1 = k
    · rw [decide_eq_true c]; rfl
    · rw [decide_eq_false c]; exact ih
  | [], _ :: _, h => h.elim
  | _ :: _, [], h => h.elim
theorem Ents.app {A : Ads} {H : Hp} : ∀ {es fs : List Ent} {ps qs : List (Dv × Dv)}, Ents A H es ps → Ents A H fs qs → Ents A H (es ++ fs) (ps ++ qs)
  | [], _, [], _, _, g => g
  | _ :: _, _, _ :: _, _, h, g => ⟨h.1, Ents.app h.2 g⟩
  | [], _, _ :: _, _, h, _ => h.elim
  | _ :: _, _, [], _, h, _ => h.elim
theorem Ents.put {A : Ads} {H : Hp} {k v : Dv} {b q : Addr} {vv : V} (hk : keyD k = true) (hq : H q = some (.tup [toV k, vv])) (hv : Has A H vv v) {es : List Ent} {ps : List (Dv × Dv)} (h : Ents A H es ps) : Ents A H (putT es (toV k) b (.ref q)) (putE ps k v) := by
  unfold putT putE
  rw [h.val hk]
  split
  · have : ∀ {es : List Ent} {ps : List (Dv × Dv)}, Ents A H es ps → Ents A H (es.map fun e => if e.1 = toV k then (e.1, e.2.1, .ref q) else e) (ps.map fun p => if p.1 = k then (p.1, v) else p) := by
      intro es
      induction es with
      | nil =>
        intro ps h
        cases ps with
        | nil => trivial
        | cons p ps => exact h.elim
      | cons e es ih =>
        intro ps h
        cases ps with
        | nil => exact h.elim
        | cons p ps =>
          obtain ⟨⟨k1, k2, q1, v1, k3, k4, k5⟩, r⟩ := h
          refine ⟨?_, ih r⟩
          by_cases c : p.1 = k
          · have c2 : e.1 = toV k := by rw [k2, c]
            simp only [c2, c, if_true]
            exact ⟨by rw [← c]; exact k1, trivial, q, vv, rfl, hq, hv⟩
          · have c2 : ¬ e.1 = toV k := fun z => c (toV_inj k1 hk (k2.symm.trans z))
            simp only [c2, c, if_false]
            exact ⟨k1, k2, q1, v1, k3, k4, k5⟩
    exact this h
  · exact h.app ⟨⟨hk, rfl, q, vv, rfl, hq, hv⟩, trivial⟩
theorem valE_some {es : List (Dv × Dv)} {k : Dv} : (valE es k).isSome = true ↔ k ∈ es.map Prod.fst := by
  unfold valE
  rw [Option.isSome_map, List.find?_isSome]
  constructor
  · rintro ⟨p, hp, e⟩
    exact List.mem_map.mpr ⟨p, hp, of_decide_eq_true e⟩
  · intro h
    obtain ⟨p, hp, e⟩ := List.mem_map.mp h
    exact ⟨p, hp, decide_eq_true e⟩
theorem putE_keys {es : List (Dv × Dv)} {k v : Dv} : (putE es k v).map Prod.fst = if k ∈ es.map Prod.fst then es.map Prod.fst else es.map Prod.fst ++ [k] := by
  unfold putE
  by_cases h : (valE es k).isSome = true
  · rw [if_pos h, if_pos (valE_some.mp h), List.map_map]
    refine List.map_congr_left fun p _ => ?_
    show (if p.1 = k then (p.1, v) else p).1 = p.1
    split <;> rfl
  · rw [if_neg h, if_neg fun z => h (valE_some.mpr z), List.map_append]
    rfl
theorem putE_nd {es : List (Dv × Dv)} {k v : Dv} (h : (es.map Prod.fst).Nodup) : ((putE es k v).map Prod.fst).Nodup := by
  rw [putE_keys]
  split
  · exact h
  · rename_i c
    rw [List.nodup_append]
    refine ⟨h, by simp, fun x hx y hy z => ?_⟩
    rw [List.mem_singleton] at hy
    rw [z, hy] at hx
    exact c hx
theorem putE_len {es : List (Dv × Dv)} {k v : Dv} : (putE es k v).length ≤ es.length + 1 ∧ ((valE es k).isSome = true → (putE es k v).length = es.length) := by
  unfold putE
  split
  · simp
  · rename_i c
    exact ⟨by simp, fun z => absurd z c⟩
theorem putE_new {es : List (Dv × Dv)} {k v : Dv} (h : k ∉ es.map Prod.fst) : putE es k v = es ++ [(k, v)] := by
  unfold putE
  rw [if_neg fun z => h (valE_some.mp z)]
/-! ### how a store goes on -/
structure Ev (a a' : Sa) (H H' : Hp) : Prop where
  fr : Fr a H H'
  s : a'.s = a.s
  gw : ∀ b, a'.own b → a.own b ∨ H b = none
theorem Ev.trans {a b c : Sa} {H H1 H2 : Hp} (x : Ev a b H H1) (y : Ev b c H1 H2) : Ev a c H H2 := by
  refine ⟨fun d u e n => y.fr _ _ (x.fr _ _ e n) fun z => ?_, y.s.trans x.s, fun d z => ?_⟩
  · rcases x.gw d z with q | q
    · exact n q
    · rw [q] at e; cases e
  · rcases y.gw d z with q | q
    · exact x.gw d q
    · cases e : H d with
      | none => exact .inr rfl
      | some u =>
        by_cases o : a.own d
        · exact .inl o
        · rw [x.fr _ _ e o] at q; cases q
theorem Ev.same {a : Sa} {H H' : Hp} (s : Same H H') : Ev a a H H' := ⟨fun b u e _ => s b u e, rfl, fun _ z => .inl z⟩
theorem Ev.rfl' {a : Sa} {H : Hp} : Ev a a H H := Ev.same fun _ _ e => e
theorem Ev.nin {a a' : Sa} {H H' : Hp} (x : Ev a a' H H') {p : Addr} {u : HO} (e : H p = some u) (n : ¬ a.own p) : ¬ a'.own p := fun z => by
  rcases x.gw p z with q | q
  · exact n q
  · rw [q] at e; cases e
section
variable {P : Program} {w : World} {K : PySem.W.Frag} {mg : Str → Option Value} {base : Heap} {A : Ads}
/-! ### checks that hold -/
def spCS : Sp := fun vs H Q _ => ∃ i : Int, vs = [.int i] ∧ i ≤ 1000 ∧ Q .non H
theorem ok_check_size (L : Lib P K mg A) : FnOk P w K mg base CX0 1 L.check_size.f L.check_size.fd ["size"] spCS := by
  refine L.check_size.F.ok sc_check_size (fun vs H Q E h => ?_) (fun cdv A' outer s H vs Q E hr h => ?_)
  · obtain ⟨i, rfl, _⟩ := h
    rfl
  · obtain ⟨i, rfl, hi, q⟩ := h
    refine ⟨_, (pss_one (ps_if (pt_cmpR op_gt (pv 0) (pe_glob (v := .int 1000) (by rfl) L.v_MOST_HELD.choose_spec ⟨_, rfl⟩) (nomark _))
        (pss_one ps_never)
        pss_nil)), ?_⟩
    exact ⟨_, rfl, _, _, rfl, rfl, _, rfl, ifF (decide_eq_false (by omega)) q⟩
theorem kit_is2 (L : Lib P K mg A) (d : Dv) : PySem.W.kitAny K (tyD A d) [.type "int", .type "str"] = some (dI d || dS d) := by
  unfold PySem.W.kitAny
  rw [kit_int L d]
  cases h : dI d with
  | true => rfl
  | false =>
    unfold PySem.W.kitAny
    rw [kit_str L d]
    cases dS d <;> rfl
def spIK (A : Ads) : Sp := fun vs H Q _ => ∃ v d, vs = [v] ∧ Has A H v d ∧ ∀ H', Same H H' → Q (.bl (keyD d)) H'
theorem ok_is_key (L : Lib P K mg A) : FnOk P w K mg base CX0 1 L.is_key.f L.is_key.fd ["value"] (spIK A) := by
  refine L.is_key.F.ok sc_is_key (fun vs H Q E h => ?_) (fun cdv A' outer s H vs Q E hr h => ?_)
  · obtain ⟨v, d, rfl, _⟩ := h
    rfl
  · obtain ⟨v, d, rfl, hv, q⟩ := h
    refine ⟨_, (pss_one (ps_ret (pe_or (pe_cmpR op_isN (pv 0) pe_non (nomark _)) (pe_one (pe_callB call_isiT (by rfl) L.z_isinstance (by decide +kernel) (pa_cons (pv 0) (pa_cons (pe_tup (pa_cons (pe_bltn (v := .ty "int") (by rfl) L.z_int (by decide +kernel) rfl) (pa_cons (pe_bltn (v := .ty "str") (by rfl) L.z_str (by decide +kernel) rfl) pa_nil))) pa_nil))))))), ?_⟩
    refine ⟨_, rfl, rfl, _, rfl, ite_or (fun e => ?_) fun e0 => ?_⟩
    · have : d = .non := by
        have e := of_decide_eq_true e
        subst e
        cases d with
        | non => rfl
        | obj n => obtain ⟨b, dx, z, _⟩ := hv; cases z
        | bi n => obtain ⟨b, dx, z, _⟩ := hv; cases z
        | _ => cases hv
      subst this
      exact q H fun _ _ e => e
    · refine ⟨_, rfl, (by show 2 ≤ sizeLine; decide), fun p np => ?_⟩
      have s1 := same_upd (o := .tup [.ty "int", .ty "str"]) np
      refine ⟨v, p, [.ty "int", .ty "str"], tyD A d, [.type "int", .type "str"], keyD d, rfl, upd_same, .cons (.ty _) (.cons (.ty _) .nil), has_ty L (hv.sv (Same.sv s1)), ?_, q _ s1⟩
      refine (kit_is2 L d).trans ?_
      cases d with
      | non => cases hv; cases e0
      | _ => rfl
def spCK (A : Ads) : Sp := fun vs H Q _ => ∃ v d, vs = [v] ∧ Has A H v d ∧ keyD d = true ∧ ∀ H', Same H H' → Q .non H'
theorem ok_check_key (L : Lib P K mg A) : FnOk P w K mg base CX0 2 L.check_key.f L.check_key.fd ["key"] (spCK A) := by
  have G_is_key : FnOk P w K mg base CX0 1 L.is_key.f L.is_key.fd ["value"] (spIK A) := ok_is_key L
  refine L.check_key.F.ok sc_check_key (fun vs H Q E h => ?_) (fun cdv A' outer s H vs Q E hr h => ?_)
  · obtain ⟨v, d, rfl, _⟩ := h
    rfl
  · obtain ⟨v, d, rfl, hv, hk, q⟩ := h
    refine ⟨_, (pss_one (ps_if (pt_not (pt_val (pe_call G_is_key (hr.mono (by omega)) (by rfl) L.is_key.g L.is_key.F.kp L.is_key.b .nil pass0 (pa_cons (pv 0) pa_nil))))
        (pss_one ps_never)
        pss_nil)), ?_⟩
    exact ⟨_, rfl, v, d, rfl, hv, fun H' s1 => ⟨_, rfl, by rw [hk]; exact iteF (q H' s1)⟩⟩
def spPE (P : Program) (w : World) (A : Ads) : Sp := fun vs H Q _ => ∃ x m kv vv k d ents es, vs = [.ref x, kv, vv] ∧ TblAt P w A H x m ents ∧ Ents A H ents es ∧ Has A H kv k ∧ keyD k = true ∧ Has A H vv d ∧ es.length < 1000 ∧
  ∀ H' ents', Keep m H H' → TblAt P w A H' x m ents' → Ents A H' ents' (putE es k d) → Q .non H'
theorem ok_put_entry (L : Lib P K mg A) : FnOk P w K mg base CX0 3 L.put_entry.f L.put_entry.fd ["table", "key", "value"] (spPE P w A) := by
  have G_check_key : FnOk P w K mg base CX0 2 L.check_key.f L.check_key.fd ["key"] (spCK A) := ok_check_key L
  have G_check_size : FnOk P w K mg base CX0 1 L.check_size.f L.check_size.fd ["size"] spCS := ok_check_size L
  have G_Table_has : FnOk P w K mg base CX0 2 L.Table_has.f L.Table_has.fd ["self", "key"] (spTHas P w A) := ok_Table_has L
  have G_Table_many : FnOk P w K mg base CX0 1 L.Table_many.f L.Table_many.fd ["self"] (spTMany P w A) := ok_Table_many L
  have G_Table_put : FnOk P w K mg base CX0 2 L.Table_put.f L.Table_put.fd ["self", "key", "value"] (spTPut P w A) := ok_Table_put L
  refine L.put_entry.F.ok sc_put_entry (fun vs H Q E h => ?_) (fun cdv A' outer s H vs Q E hr h => ?_)
  · obtain ⟨x, m, kv, vv, k, d, ents, es, rfl, _⟩ := h
    rfl
  · obtain ⟨x, m, kv, vv, k, d, ents, es, rfl, hT, hE, hk, hkd, hv, hl, q⟩ := h
    obtain ⟨ekv, kok⟩ := has_key hk hkd
    subst ekv
    have hlen := hE.len
    refine ⟨_, (pss_cons (ps_expr (pe_call G_check_key (hr.mono (by omega)) (by rfl) L.check_key.g L.check_key.F.kp L.check_key.b .nil pass0 (pa_cons (pv 1) pa_nil)))
      (pss_cut (ps_if (pt_not (pt_val (pe_meth (pv 0) L.c_Table.cl L.Table_has.m G_Table_has (hr.mono (by omega)) L.Table_has.b .nil pass0 (pa_cons (pv 1) pa_nil))))
        (pss_one (ps_expr (pe_call G_check_size (hr.mono (by omega)) (by rfl) L.check_size.g L.check_size.F.kp L.check_size.b .nil pass0 (pa_cons (pe_op op_add (pe_prop (pv 0) L.c_Table.cl L.Table_many.m G_Table_many (hr.mono (by omega)) L.Table_many.b .nil pass0 rfl) pe_int) pa_nil))))
        pss_nil)
      (pss_one (ps_expr (pe_meth (pv 0) L.c_Table.cl L.Table_put.m G_Table_put (hr.mono (by omega)) L.Table_put.b .nil pass0 (pa_cons (pv 1) (pa_cons (pv 2) pa_nil))))))), ?_⟩
    obtain ⟨⟨dx, hx⟩, _, _⟩ := id hT
    have last : ∀ H3, Same H H3 → TblAt P w A H3 x m ents → Ents A H3 ents es → spTPut P w A [.ref x, toV k, vv] H3 (fun v H' => v = .non ∧ Q .non H') (fun _ _ _ => False) := fun H3 s3 hT3 hE3 => by
      refine ⟨x, m, ents, toV k, vv, rfl, hT3, kok, by omega, fun H' b q' kk hT' hq' nq' => ⟨rfl, ?_⟩⟩
      have ct := hT3.tab.at_
      have vk : Vk A H3 H' := ⟨fun v d h => by
        cases d with
        | obj n =>
          obtain ⟨b, dx, rfl, e⟩ := h
          exact ⟨b, dx, rfl, kk _ _ e fun z => by rw [z, ct] at e; cases e⟩
        | bi n =>
          obtain ⟨b, dx, rfl, e⟩ := h
          exact ⟨b, dx, rfl, kk _ _ e fun z => by rw [z, ct] at e; cases e⟩
        | _ => exact h, fun q xs e => kk _ _ e fun z => by rw [z, ct] at e; cases e⟩
      refine q H' _ (fun c u e n => kk _ _ (s3 _ _ e) n) hT' ((hE3.imp vk.v vk.t).put hkd hq' (vk.v _ _ (hv.sv (Same.sv s3))))
    let M : List (Option V) → Hp → Prop := fun σ' H' => σ' = [some (.ref x), some (toV k), some vv] ∧ Same H H'
    refine ⟨_, rfl, _, k, rfl, hk, hkd, fun H1 s1 => ⟨M, ?_, ?_⟩⟩
    · have hT1 := hT.same s1
      refine ⟨_, rfl, x, dx, _, rfl, s1 _ _ hx, tab_none (by decide +kernel), _, rfl, x, m, ents, _, rfl, hT1, kok, fun H2 s2 => ⟨_, rfl, ?_⟩⟩
      have s12 := s1.trans s2
      refine ite_or (fun _ => ?_) (fun _ => ⟨rfl, s12⟩)
      have hT2 := hT.same s12
      exact ⟨_, rfl, x, dx, _, rfl, s12 _ _ hx, x, m, ents, rfl, hT2, _, _, rfl, rfl, _, rfl, by omega, rfl, s12⟩
    · rintro σ' H3 ⟨rfl, s3⟩
      refine ⟨_, rfl, x, dx, _, rfl, s3 _ _ hx, tab_none (by decide +kernel), _, rfl, _, rfl, ?_⟩
      obtain ⟨x', m', e', k', v', z, a1, a2, a3, a4⟩ := last H3 s3 (hT.same s3) (hE.imp (fun v d h => h.sv (Same.sv s3)) (fun q xs e => s3 _ _ e))
      exact ⟨x', m', e', k', v', z, a1, a2, a3, fun H' b q' p1 p2 p3 p4 => (a4 H' b q' p1 p2 p3 p4).2⟩
end
end My
namespace My
open PySem L2 SX XT XS XE
open XD
open C8 (pss_cut tCut cutS_slice pe_gc)
section
variable {P : Program} {w : World} {K : PySem.W.Frag} {mg : Str → Option Value} {base : Heap} {A : Ads}
theorem SM.fresh {H : Hp} {a : Sa} {S : St} (L : Lib P K mg A) (h : SM P w A H a S) {b : Addr} (n : H b = none) : ¬ a.own b := fun z => by
  obtain ⟨u, e, _⟩ := h.nv L z
  rw [n] at e
  cases e
theorem SM.grow {H H1 : Hp} {a : Sa} {S : St} {x m : Addr} (L : Lib P K mg A) (h : SM P w A H a S) (s1 : Same H H1) (nx : H x = none) (nm : H m = none) :
    x ∉ a.X ∧ m ∉ a.t :: a.o :: a.l :: a.M ∧ ∀ H2, Keep a.t H1 H2 → Ev a { a with X := a.X ++ [x], M := a.M ++ [m] } H H2 := by
  have fx := h.fresh L nx
  have fm := h.fresh L nm
  refine ⟨fun z => fx (.inr (.inr (.inr (.inr (.inl z))))), fun z => ?_, fun H2 k => ⟨fun b u e n => k _ _ (s1 _ _ e) fun z => n (.inr (.inl z)), rfl, fun b z => ?_⟩⟩
  · simp only [List.mem_cons] at z
    rcases z with z | z | z | z
    · exact fm (.inr (.inl z))
    · exact fm (.inr (.inr (.inl z)))
    · exact fm (.inr (.inr (.inr (.inl z))))
    · exact fm (.inr (.inr (.inr (.inr (.inr z)))))
  · rcases z with z | z | z | z | z | z
    · exact .inl (.inl z)
    · exact .inl (.inr (.inl z))
    · exact .inl (.inr (.inr (.inl z)))
    · exact .inl (.inr (.inr (.inr (.inl z))))
    · rcases List.mem_append.mp z with z | z
      · exact .inl (.inr (.inr (.inr (.inr (.inl z)))))
      · rw [List.mem_singleton] at z; exact .inr (z ▸ nx)
    · rcases List.mem_append.mp z with z | z
      · exact .inl (.inr (.inr (.inr (.inr (.inr z)))))
      · rw [List.mem_singleton] at z; exact .inr (z ▸ nm)
/-- how a new thing is told -/
def New (P : Program) (w : World) (A : Ads) (a : Sa) (S : St) (H : Hp) (d : Th) (Q : VK) : Prop := ∀ H' r a', Ev a a' H H' → SM P w A H' a' { S with things := S.things ++ [d] } → Has A H' (.ref r) (.obj S.things.length) → Q (.ref r) H'
/-! ### make_map -/
theorem snocRec {α : Type} {motive : List α → Prop} (l : List α) (nil : motive []) (snoc : ∀ ps p, motive ps → motive (ps ++ [p])) : motive l := by
  have : ∀ n (l : List α), l.length = n → motive l := by
    intro n
    induction n with
    | zero => intro l h; rw [List.eq_nil_of_length_eq_zero h]; exact nil
    | succ n ih =>
      intro l h
      have hl : l ≠ [] := fun z => by rw [z] at h; cases h
      rw [← List.dropLast_concat_getLast hl]
      exact snoc _ _ (ih _ (by rw [List.length_dropLast]; omega))
  exact this _ l rfl
def Prs (A : Ads) (K : PySem.W.Frag) (H : Hp) : List V → List (Dv × Dv) → Prop
  | [], [] => True
  | v :: vs, p :: ps => (keyD p.1 = true ∧ ∃ q k u, v = .ref q ∧ SqT K H q [k, u] ∧ Has A H k p.1 ∧ Has A H u p.2) ∧ Prs A K H vs ps
  | _, _ => False
theorem Prs.len {H : Hp} : ∀ {vs : List V} {ps : List (Dv × Dv)}, Prs A K H vs ps → vs.length = ps.length
  | [], [], _ => rfl
  | _ :: _, _ :: _, h => congrArg (· + 1) (Prs.len h.2)
  | [], _ :: _, h => h.elim
  | _ :: _, [], h => h.elim
theorem Prs.at {H : Hp} : ∀ {vs : List V} {ps : List (Dv × Dv)} {i : Nat} {v : V}, Prs A K H vs ps → vs[i]? = some v → ∃ p q k u, ps[i]? = some p ∧ keyD p.1 = true ∧ v = .ref q ∧ SqT K H q [k, u] ∧ Has A H k p.1 ∧ Has A H u p.2
  | _ :: _, p :: _, 0, _, h, e => by
    simp at e
    subst e
    obtain ⟨h1, q, k, u, h2, h3, h4, h5⟩ := h.1
    exact ⟨p, q, k, u, rfl, h1, h2, h3, h4, h5⟩
  | _ :: _, _ :: _, i + 1, _, h, e => by
    simp at e
    obtain ⟨p, r⟩ := Prs.at h.2 e
    exact ⟨p, by simpa using r⟩
  | [], _ :: _, _, _, h, _ => h.elim
  | _ :: _, [], _, _, h, _ => h.elim
  | [], [], _, _, _, e => by simp at e
def putAll (ps : List (Dv × Dv)) : List (Dv × Dv) := ps.foldl (fun es p => putE es p.1 p.2) []
theorem putAll_snoc (ps : List (Dv × Dv)) (p : Dv × Dv) : putAll (ps ++ [p]) = putE (putAll ps) p.1 p.2 := by
  unfold putAll
  rw [List.foldl_append]
  rfl
theorem putAll_nd (ps : List (Dv × Dv)) : ((putAll ps).map Prod.fst).Nodup ∧ (putAll ps).length ≤ ps.length := by
  induction ps using My.snocRec with
  | nil => exact ⟨List.nodup_nil, Nat.le_refl _⟩
  | snoc ps p ih =>
    rw [putAll_snoc]
    exact ⟨putE_nd ih.1, by have := (putE_len (es := putAll ps) (k := p.1) (v := p.2)).1; rw [List.length_append, List.length_singleton]; omega⟩
def spMMp (P : Program) (w : World) (K : PySem.W.Frag) (A : Ads) : Sp := fun vs H Q _ => ∃ (a : Sa) (S : St) (l : Addr) (us : List V) (ps : List (Dv × Dv)), vs = [.ref a.s, .ref l] ∧ SM P w A H a S ∧ SqL K H l us ∧ Prs A K H us ps ∧ ps.length ≤ 1000 ∧ S.things.length < 100000 ∧ New P w A a S H (.table (putAll ps)) Q
theorem ok_make_map (L : Lib P K mg A) : FnOk P w K mg base CX0 4 L.make_map.f L.make_map.fd ["store", "pairs"] (spMMp P w K A) := by
  have G_Table_init : FnOk P w K mg base CX0 1 L.Table_init.f L.Table_init.fd ["self"] (spTI P w A) := ok_Table_init L
  have G_put_entry : FnOk P w K mg base CX0 3 L.put_entry.f L.put_entry.fd ["table", "key", "value"] (spPE P w A) := ok_put_entry L
  have G_Store_make : FnOk P w K mg base CX0 3 L.Store_make.f L.Store_make.fd ["self", "thing"] (spMake P w A) := ok_Store_make L
  refine L.make_map.F.ok sc_make_map (fun vs H Q E h => ?_) (fun cdv A' outer s H vs Q E hr h => ?_)
  · obtain ⟨a, S, l, us, ps, rfl, _⟩ := h
    rfl
  · obtain ⟨a, S, l, us, ps, rfl, hS, hl, hp, hn, hb, q⟩ := h
    have hul := hp.len
    refine ⟨_, (pss_cons (ps_set (i := 2) sc_make_map.nd rfl (.inl rfl) (pe_make0 L.Table_init.m G_Table_init (hr.mono (by omega)) (by rfl) L.c_Table.g L.Table_init.b .nil pass0))
      (pss_cons (ps_for PassesOwn.never rfl (pi_list (pv 1)) (pg_tup (by rfl) (pgs_cons (pg_name (i := 3) sc_make_map.nd rfl (.inl rfl)) (pgs_cons (pg_name (i := 4) sc_make_map.nd rfl (.inl rfl)) pgs_nil)))
        (pss_one (ps_expr (pe_call G_put_entry (hr.mono (by omega)) (by rfl) L.put_entry.g L.put_entry.F.kp L.put_entry.b .nil pass0 (pa_cons (pv 2) (pa_cons (pv 3) (pa_cons (pv 4) pa_nil)))))))
      (pss_one (ps_ret (pe_meth (pv 0) L.c_Store.cl L.Store_make.m G_Store_make (hr.mono (by omega)) L.Store_make.b .nil pass0 (pa_cons (pv 2) pa_nil)))))), ?_⟩
    intro x dx nx ndx ndxx
    have sm0 : Same H (upd (upd H dx (.own x)) x (.ins A.Table dx [])) := fun b u e => by
      rw [upd_ne (ne_of_none e nx), upd_ne (ne_of_none e ndx)]
      exact e
    refine ⟨x, dx, rfl, upd_same, fun H1 m k1 nm hT => ⟨rfl, ?_⟩⟩
    have s1 := Same.made nx ndx k1
    have nm0 : H m = none := sm0.free nm
    refine ⟨_, rfl, l, rfl, ⟨_, s1.seq hl⟩, for_list (K := K) (a := l) (xs := us) (fun i σ H' => ∃ (y3 y4 : Option V) (ents : List Ent), σ = [some (.ref a.s), some (.ref l), some (.ref x), y3, y4] ∧ Same H H' ∧ TblAt P w A H' x m ents ∧ Ents A H' ents (putAll (ps.take i))) ⟨none, none, [], rfl, s1, hT, trivial⟩ (fun i σ H' _ h => by obtain ⟨_, _, _, _, s', _⟩ := h; exact s'.seq hl) ?_ ?_⟩
    · rintro i v σ H2 hv ⟨y3, y4, ents, rfl, s2, hT2, hE2⟩
      obtain ⟨p, qd, kv, uv, ep, hk, rfl, ht, hk1, hu1⟩ := hp.at hv
      have hi : i < ps.length := (List.getElem?_eq_some_iff.mp ep).1
      refine ⟨qd, _, rfl, sqt_same s2 ht, rfl, _, _, rfl, _, _, rfl, rfl, ?_⟩
      have hlen : (putAll (ps.take i)).length < 1000 := by
        have h1 := (putAll_nd (ps.take i)).2
        rw [List.length_take] at h1
        omega
      refine ⟨_, rfl, _, rfl, _, rfl, x, m, kv, uv, p.1, p.2, ents, _, rfl, hT2, hE2, hk1.sv (Same.sv s2), hk, hu1.sv (Same.sv s2), hlen, fun H3 ents3 k3 hT3 hE3 => ⟨_, _, ents3, rfl, fun b u e => k3 _ _ (s2 _ _ e) (ne_of_none e nm0), hT3, ?_⟩⟩
      rw [List.take_add_one, ep]
      show Ents A H3 ents3 (putAll (ps.take i ++ [p]))
      rw [putAll_snoc]
      exact hE3
    · rintro σ H2 ⟨y3, y4, ents, rfl, s2, hT2, hE2⟩
      rw [hul, List.take_length] at hE2
      obtain ⟨dsx, h1⟩ := hS.s_
      obtain ⟨g1, g2, g3⟩ := hS.grow L s2 nx nm0
      refine ⟨_, rfl, a.s, dsx, _, rfl, s2 _ _ h1, st_no _ _ _ _ (by decide +kernel) (by decide +kernel) (by decide +kernel) (by decide +kernel), _, rfl, ?_⟩
      refine ⟨a, S, x, m, .table (putAll ps), rfl, hS.same s2, ⟨ents, hT2, hE2, (putAll_nd ps).1, by have := (putAll_nd ps).2; omega⟩, g1, g2, hb, fun H3 r k3 hS3 nr hr3 => ?_⟩
      exact q H3 r _ (g3 H3 k3) hS3 hr3
/-! ### next_of -/
end
end My
namespace My
open PySem L2 SX XT XS XE XD XL
open C8 (pss_cut tCut cutS_slice pe_gc)
section
variable {P : Program} {w : World} {K : PySem.W.Frag} {mg : Str → Option Value} {base : Heap} {A : Ads}
end
end My
namespace My
open PySem L2 SX XT XS XE XD XL
open C8 (pss_cut tCut cutS_slice pe_gc)
theorem sqt_keep {K : PySem.W.Frag} {H H' : Hp} {p r : Addr} {xs ys : List V} (hk : Keep p H H') (hp : H p = some (.lst ys)) (h : SqT K H r xs) : SqT K H' r xs := by
  rcases h with (h | ⟨ob, h⟩) | h
  · exact .inl (.inl (hk _ _ h fun z => by rw [z, hp] at h; cases h))
  · exact .inl (.inr ⟨ob, hk _ _ h fun z => by rw [z, hp] at h; cases h⟩)
  · exact .inr h
variable {P : Program} {w : World} {K : PySem.W.Frag} {mg : Str → Option Value} {base : Heap} {A : Ads}
def StL (K : PySem.W.Frag) (H : Hp) (a p : Addr) (ns : List Int) : Prop := ∃ x k : Int, H p = some (.lst [.int x, .int k, .ref a]) ∧ 0 ≤ k ∧ SqL K H a (ns.map V.int)
theorem sql_keep {H H' : Hp} {a p : Addr} {x k : Int} {ns : List Int} (hk : Keep p H H') (hp : H p = some (.lst [.int x, .int k, .ref a])) (h : SqL K H a (ns.map V.int)) : SqL K H' a (ns.map V.int) := by
  rcases h with (h | ⟨ob, h⟩) | h
  · refine .inl (.inl (hk _ _ h fun z => ?_))
    rw [z, hp] at h
    have := Option.some.inj h
    injection this with e
    match ns, e with
    | [], e => cases e
    | [_], e => simp at e
    | [_, _], e => simp at e
    | _ :: _ :: _ :: _, e => simp at e
  · refine .inl (.inr ⟨ob, hk _ _ h fun z => ?_⟩)
    rw [z, hp] at h
    cases h
  · exact .inr h
theorem StL.same {H H' : Hp} {a p : Addr} {ns : List Int} (s : Same H H') (h : StL K H a p ns) : StL K H' a p ns := by
  obtain ⟨x, k, h1, h2, h3⟩ := h
  exact ⟨x, k, s _ _ h1, h2, s.seq h3⟩
def spCell (K : PySem.W.Frag) : Sp := fun vs H Q _ => ∃ (a : Addr) (ns : List Int) (k : Int), vs = [.ref a, .int k] ∧ SqL K H a (ns.map V.int) ∧ 0 ≤ k ∧ ∀ c : Int, Q (.int c) H
theorem ok_law_cell (L : Lib P K mg A) : FnOk P w K mg base CX0 1 L.law_cell.f L.law_cell.fd ["script", "k"] (spCell K) := by
  refine L.law_cell.F.ok sc_law_cell (fun vs H Q E h => ?_) (fun cdv A' outer s H vs Q E hr h => ?_)
  · obtain ⟨a, ns, k, rfl, _⟩ := h
    rfl
  · obtain ⟨a, ns, k, rfl, hS, h0, q⟩ := h
    refine ⟨_, pss_cons (ps_if (pt_cmpR op_lt (pv 1) (pe_callB call_len_seq (by rfl) L.z_len PySem.boot_len (pa_cons (pv 0) pa_nil)) (nomark _))
        (pss_one (ps_ret (pe_ix ix_list (pv 0) (pv 1) (fun _ _ => rfl))))
        pss_nil)
      (pss_one (ps_ret pe_int)), ?_⟩
    refine ⟨_, rfl, _, rfl, a, _, rfl, .inl hS, _, _, rfl, rfl, _, rfl, ite2 (fun e => ?_) (fun e => q 0)⟩
    have e1 : k < ((ns.map V.int).length : Nat) := of_decide_eq_true e
    obtain ⟨j, rfl⟩ : ∃ j : Nat, k = (j : Int) := ⟨k.toNat, by omega⟩
    have hj : j < ns.length := by
      rw [List.length_map] at e1
      omega
    refine ⟨_, rfl, _, rfl, a, _, _, V.int ns[j], rfl, rfl, hS, atI_nat ?_, q _⟩
    rw [List.getElem?_map, List.getElem?_eq_getElem hj]
    rfl
def spBegin (K : PySem.W.Frag) : Sp := fun vs H Q _ => ∃ (a : Addr) (ns : List Int) (k : Int), vs = [.ref a, .int k] ∧ SqL K H a (ns.map V.int) ∧ 0 ≤ k ∧ ∀ H' p, H p = none → Same H H' → StL K H' a p ns → Q (.ref p) H'
theorem ok_law_begin (L : Lib P K mg A) : FnOk P w K mg base CX0 1 L.law_begin.f L.law_begin.fd ["script", "k"] (spBegin K) := by
  refine L.law_begin.F.ok sc_law_begin (fun vs H Q E h => ?_) (fun cdv A' outer s H vs Q E hr h => ?_)
  · obtain ⟨a, ns, k, rfl, _⟩ := h
    rfl
  · obtain ⟨a, ns, k, rfl, hS, h0, q⟩ := h
    refine ⟨_, pss_one (ps_ret (pe_lst (pa_cons pe_int (pa_cons (pv 1) (pa_cons (pv 0) pa_nil))))), ?_⟩
    refine ⟨_, rfl, _, rfl, (by show 3 ≤ sizeLine; decide), fun p hp => q _ p hp (same_upd hp) ⟨0, k, upd_same, h0, (same_upd hp).seq hS⟩⟩
def spDraw (K : PySem.W.Frag) : Sp := fun vs H Q _ => ∃ (a p : Addr) (ns : List Int) (many : Int), vs = [.ref p, .int many] ∧ StL K H a p ns ∧ 0 < many ∧ many.natAbs < 2 ^ 80 ∧ ∀ H' (r : Int), Keep p H H' → StL K H' a p ns → 0 ≤ r → r < many → Q (.int r) H'
theorem ok_law_draw (L : Lib P K mg A) : FnOk P w K mg base CX0 2 L.law_draw.f L.law_draw.fd ["state", "many"] (spDraw K) := by
  have GC : FnOk P w K mg base CX0 1 L.law_cell.f L.law_cell.fd ["script", "k"] (spCell K) := ok_law_cell L
  refine L.law_draw.F.ok sc_law_draw (fun vs H Q E h => ?_) (fun cdv A' outer s H vs Q E hr h => ?_)
  · obtain ⟨a, p, ns, many, rfl, _⟩ := h
    rfl
  · obtain ⟨a, p, ns, many, rfl, ⟨x, k, hp, hk, hS⟩, h0, h1, q⟩ := h
    refine ⟨_, pss_cut (ps_if (pt_cmpR op_lt (pe_ix ix_list (pv 0) pe_int (fun _ _ => rfl)) (pv 1) (nomark _))
        (pss_cons (ps_set (i := 2) sc_law_draw.nd rfl (.inl rfl) (pe_ix ix_list (pv 0) pe_int (fun _ _ => rfl)))
        (pss_cons (ps_set (i := 3) sc_law_draw.nd rfl (.inl rfl) (pe_call GC hr (by rfl) L.law_cell.g L.law_cell.F.kp L.law_cell.b .nil pass0 (pa_cons (pe_ix ix_list (pv 0) pe_int (fun _ _ => rfl)) (pa_cons (pv 2) pa_nil))))
        (pss_cons (ps_set (i := 4) sc_law_draw.nd rfl (.inl rfl) pe_int)
        (pss_cons (ps_asg (pe_op op_add (pv 2) pe_int) (pg_sub (pv 0) pe_int set_list))
        (pss_cons (ps_asg (pe_callB call_abs (by rfl) L.z_abs (by decide +kernel) (pa_cons (pv 3) pa_nil)) (pg_sub (pv 0) pe_int set_list))
        (pss_one (ps_if (pt_chain op_lt op_lt (pe_un un_neg pe_int) (pv 3) pe_int)
          (pss_cons (ps_set (i := 5) sc_law_draw.nd rfl (.inl rfl) (pe_op op_mod (pe_callTy call_int1 (by rfl) L.z_int (by decide +kernel) (pa_cons (pe_op op_add (pe_op op_mul (pv 3) pe_int) (pe_op op_mul (pe_op op_add (pv 2) pe_int) pe_int)) pa_nil)) (pv 4)))
          (pss_one (ps_asg (pe_op op_add (pe_op op_mod (pe_callTy call_int1 (by rfl) L.z_int (by decide +kernel) (pa_cons (pe_op op_add (pe_op op_add (pe_op op_mulW (pv 5) (pv 5)) (pe_op op_mul pe_int (pv 5))) (pv 2)) pa_nil)) (pv 4)) (pv 4)) (pg_sub (pv 0) pe_int set_list))))
          pss_nil)))))))
        pss_nil)
      (pss_cons (ps_set (i := 6) sc_law_draw.nd rfl (.inl rfl) (pe_op op_mod (pe_callTy call_int1 (by rfl) L.z_int (by decide +kernel) (pa_cons (pe_ix ix_list (pv 0) pe_int (fun _ _ => rfl)) pa_nil)) (pv 1)))
      (pss_cons (ps_asg (pe_op op_fdivW (pe_ix ix_list (pv 0) pe_int (fun _ _ => rfl)) (pv 1)) (pg_sub (pv 0) pe_int set_list))
      (pss_one (ps_ret (pv 6))))), ?_⟩
    let M : List (Option V) → Hp → Prop := fun σ' H' => ∃ (y2 y3 y4 y5 : Option V) (x k : Int), σ' = [some (.ref p), some (.int many), y2, y3, y4, y5, none] ∧ Keep p H H' ∧ H' p = some (.lst [.int x, .int k, .ref a]) ∧ 0 ≤ k
    refine ⟨M, ⟨_, rfl, p, _, _, _, rfl, rfl, SqL.of hp, rfl, _, rfl, _, _, rfl, rfl, _, rfl, ite2 (fun e => ?_) (fun e => ⟨none, none, none, none, x, k, rfl, fun _ _ e _ => e, hp, hk⟩)⟩, ?_⟩
    · refine ⟨_, rfl, p, _, _, _, rfl, rfl, SqL.of hp, rfl, ?_⟩
      refine ⟨_, rfl, p, _, _, _, rfl, rfl, SqL.of hp, rfl, _, rfl, a, ns, k, rfl, hS, hk, fun cell => ?_⟩
      refine ⟨_, rfl, _, _, rfl, rfl, _, rfl, p, _, _, _, rfl, rfl, hp, rfl, ?_⟩
      refine ⟨_, rfl, _, rfl, _, rfl, p, _, _, _, rfl, rfl, upd_same, rfl, ?_⟩
      have fin : ∀ (z z' : Int) (Hx : Hp), Keep p H Hx → Keep p H (upd Hx p (.lst [.int z, .int z', .ref a])) := fun z z' Hx kx b o e n => by
        rw [upd_ne n]
        exact kx b o e n
      have k0 : Keep p H H := fun _ _ e _ => e
      have kA := fin x (k + 1) H k0
      have kB := fin (if cell < 0 then -cell else cell) (k + 1) _ kA
      have eB : upd (upd H p (.lst [.int x, .int (k + 1), .ref a])) p (.lst [.int (if cell < 0 then -cell else cell), .int (k + 1), .ref a]) p = some (.lst [.int (if cell < 0 then -cell else cell), .int (k + 1), .ref a]) := upd_same
      have done : ∀ (y5 : Option V) (z : Int) (Hx : Hp), Keep p H Hx → Hx p = some (.lst [.int z, .int (k + 1), .ref a]) → M [some (.ref p), some (.int many), some (.int k), some (.int cell), some (.int 618970019642690137449562111), y5, none] Hx := fun y5 z Hx k1 e1 => ⟨_, _, _, _, z, k + 1, rfl, k1, e1, by omega⟩
      refine ⟨_, rfl, _, rfl, _, _, rfl, rfl, _, rfl, ite2 (fun e1 => ⟨_, _, rfl, rfl, _, rfl, ite2 (fun e2 => ?_) (fun _ => done none _ _ kB eB)⟩) (fun _ => ⟨_, rfl, iteF (done none _ _ kB eB)⟩)⟩
      refine ⟨_, rfl, _, _, rfl, rfl, .inr ⟨by decide, by decide⟩, _, rfl, _, _, rfl, rfl, _, _, rfl, rfl, .inr ⟨by decide, by decide⟩, _, _, rfl, rfl, .inl ⟨_, rfl, _, rfl, _, _, rfl, rfl, (by show (0 : Int) < 618970019642690137449562111; decide), ?_⟩⟩
      dsimp only
      have m0 : 0 ≤ (cell * 2654435761 + (k + 1) * 6700417) % 618970019642690137449562111 := Int.emod_nonneg _ (by decide)
      have m1 : (cell * 2654435761 + (k + 1) * 6700417) % 618970019642690137449562111 < 618970019642690137449562111 := Int.emod_lt_of_pos _ (by decide)
      generalize (cell * 2654435761 + (k + 1) * 6700417) % 618970019642690137449562111 = mx at m0 m1 ⊢
      have mb : mx.natAbs < 2 ^ 90 := by
        have : (2 : Nat) ^ 90 = 1237940039285380274899124224 := by decide
        omega
      refine ⟨_, rfl, _, rfl, _, _, rfl, rfl, wide_mul mb mb (by decide) (by decide) (by decide), _, rfl, _, _, rfl, rfl, .inl ⟨by decide, by decide⟩, _, _, rfl, rfl, _, rfl, _, _, rfl, rfl, .inl ⟨_, rfl, _, rfl, _, _, rfl, rfl, (by show (0 : Int) < 618970019642690137449562111; decide), _, rfl, _, _, rfl, rfl, _, rfl, p, _, _, _, rfl, rfl, eB, rfl, ?_⟩⟩
      exact done _ _ _ (fin _ _ _ kB) upd_same
    rintro σ' H' ⟨y2, y3, y4, y5, x', k', rfl, k1, hp', hk'⟩
    refine ⟨_, rfl, p, _, _, _, rfl, rfl, SqL.of hp', rfl, .inl ⟨_, rfl, _, rfl, _, _, rfl, rfl, h0, ?_⟩⟩
    refine ⟨_, rfl, p, _, _, _, rfl, rfl, SqL.of hp', rfl, _, rfl, _, _, rfl, rfl, wide_div h0 h1 (by decide) (by decide), _, rfl, p, _, _, _, rfl, rfl, hp', rfl, ?_⟩
    have k2 : Keep p H (upd H' p (.lst [.int (x' / many), .int k', .ref a])) := fun b o e n => by
      rw [upd_ne n]
      exact k1 b o e n
    exact ⟨_, rfl, q _ _ k2 ⟨_, k', upd_same, hk', sql_keep k2 hp hS⟩ (Int.emod_nonneg _ (by omega)) (Int.emod_lt_of_pos _ h0)⟩
section
variable {P : Program} {w : World} {K : PySem.W.Frag} {mg : Str → Option Value} {base : Heap} {A : Ads}
def spPick (K : PySem.W.Frag) : Sp := fun vs H Q _ => ∃ (a p r : Addr) (ns : List Int) (xs : List V), vs = [.ref p, .ref r] ∧ StL K H a p ns ∧ SqT K H r xs ∧ 0 < xs.length ∧ xs.length ≤ 100 ∧ ∀ H' v, v ∈ xs → Keep p H H' → StL K H' a p ns → Q v H'
theorem ok_law_pick (L : Lib P K mg A) : FnOk P w K mg base CX0 3 L.law_pick.f L.law_pick.fd ["state", "row"] (spPick K) := by
  have GD : FnOk P w K mg base CX0 2 L.law_draw.f L.law_draw.fd ["state", "many"] (spDraw K) := ok_law_draw L
  refine L.law_pick.F.ok sc_law_pick (fun vs H Q E h => ?_) (fun cdv A' outer s H vs Q E hr h => ?_)
  · obtain ⟨a, p, r, ns, xs, rfl, _⟩ := h
    rfl
  · obtain ⟨a, p, r, ns, xs, rfl, hst, ht, h0, h1, q⟩ := h
    refine ⟨_, pss_one (ps_ret (pe_ix ix_tup (pv 1) (pe_call GD hr (by rfl) L.law_draw.g L.law_draw.F.kp L.law_draw.b .nil pass0 (pa_cons (pv 0) (pa_cons (pe_callB call_len_seq (by rfl) L.z_len PySem.boot_len (pa_cons (pv 1) pa_nil)) pa_nil))) (fun _ _ => rfl))), ?_⟩
    refine ⟨_, rfl, _, rfl, _, rfl, r, _, rfl, .inr ht, a, p, ns, _, rfl, hst, by omega, by omega, fun H' i k1 st i0 i1 => ?_⟩
    obtain ⟨j, rfl⟩ : ∃ j : Nat, i = (j : Int) := ⟨i.toNat, by omega⟩
    have hj : j < xs.length := by omega
    obtain ⟨x, k, hp, _⟩ := hst
    exact ⟨r, xs, _, xs[j], rfl, rfl, sqt_keep k1 hp ht, atI_nat (List.getElem?_eq_getElem hj), q H' _ (List.getElem_mem hj) k1 st⟩
end
end My
namespace My
open PySem L2 SX XT XS XE
open C8 (pss_cut tCut cutS_slice pe_gc)
theorem evSE (cda cc : Addr) : (supOf sx_ScriptError "ScriptError.__init__" cda cc).Ev := fun env => ⟨⟨_, by rfl⟩, by rfl, by rfl⟩
theorem scSE : NdefX.NScope ["self", "kind", "message", "__class__"] ["self", "kind", "message"] ["__class__"] (defScope sx_ScriptError) := NdefX.nscope_by (by decide +kernel)
section
variable {P : Program} {w : World} {K : PySem.W.Frag} {mg : Str → Option Value} {base : Heap} {cE fI cda cc : Addr}
theorem lt_len {s : Str} (h : s.length ≤ 100000) : s.length ≤ sizeLine := by rw [sizeLine_eq]; omega
theorem ok_SE {dV kV doc pm ct oc : Value} {an od : Option Addr} {osl : Array (Option Value)} (lk : K.lookup fI = some ⟨oc, od, .func (PySem.W.ksFn "__init__" "ScriptError.__init__" (defArgs sx_ScriptError) (defBody sx_ScriptError) (defScope sx_ScriptError) dV kV doc pm an (.ref cda) ct cc), osl⟩)
    (hcd : PySem.W.codeIn K (.ref cda) "ScriptError.__init__" = true) (T : Exn P K mg cE fI "kind" "message") (U : Sup P K mg cda cc cE cE) :
    FnOk P w K mg base CX0 1 fI (PySem.W.ksFn "__init__" "ScriptError.__init__" (defArgs sx_ScriptError) (defBody sx_ScriptError) (defScope sx_ScriptError) dV kV doc pm an (.ref cda) ct cc) ["self", "kind", "message"] (spTwo cE "kind" "message") := by
  refine fn_super (D := cE) (F := supOf sx_ScriptError "ScriptError.__init__" cda cc) lk hcd scSE rfl rfl (show (defScope sx_ScriptError).names.lookup ("super" : Str) = some .globalImplicit by decide +kernel) (evSE cda cc) (fun vs H Q E h => ?_) (fun A outer s H vs Q E hr h => ?_)
  · obtain ⟨a, v1, v2, rfl, _⟩ := h
    rfl
  · obtain ⟨a, v1, v2, rfl, ha, ⟨k1, rfl, z1⟩, ⟨k2, rfl, z2⟩, q⟩ := h
    refine ⟨a, cE, _, _, rfl, ha, T.oex, U, pa_cons (pe_joined (.cons (pe_fmt (pv 1)) (.cons pe_str (.cons (pe_fmt (pv 2)) .nil)))) pa_nil, pss_cons (ps_ost (pv 0) (pv 1)) (pss_one (ps_ost (pv 0) (pv 2))), ?_⟩
    have l0 : (Str.empty : Str).length = 0 := by decide +kernel
    have l2 : ((": " : Str)).length = 2 := by decide +kernel
    refine ⟨_, rfl, .inl ⟨k1, rfl, lt_len z1, k1, rfl, ?_, ?_⟩⟩
    · rw [Str.length_append, l0, sizeLine_eq]
      omega
    · refine ⟨_, rfl, ?_, _, rfl, .inl ⟨k2, rfl, lt_len z2, k2, rfl, ?_, ?_⟩⟩
      · rw [Str.length_append, Str.length_append, l0, l2, sizeLine_eq]
        omega
      · rw [Str.length_append, Str.length_append, Str.length_append, l0, l2, sizeLine_eq]
        omega
      · refine ⟨by show 1 ≤ 1000; omega, ha, ?_⟩
        refine ⟨_, rfl, _, rfl, a, cE, rfl, T.oex, T.n1, .inl ⟨ha, fun d hd hne => ?_⟩⟩
        refine ⟨_, rfl, _, rfl, a, cE, rfl, T.oex, T.n2, .inr ⟨d, [("kind", .str k1)], upd_same, ?_, (by show 1 ≤ 900; omega), ?_⟩⟩
        · rw [upd_ne hne]
          exact upd_same
        · exact q d hd hne
end
end My
namespace My
open PySem L2
section
variable {X : Cx} {d : Addr} {es : Array DictEntry} {n : Nat}
/-- d.get(key), d a written dict -/
theorem mt_kget (D : KDict X.K X.w d es n) : MtR X "dict.get" (fun x xs H Q => ∃ (z : Str) (r : Option Value), x = .ref d ∧ xs = [.str z] ∧ PySem.W.nsIn X.K d z = some r ∧ ((r = none ∧ Q .non H) ∨ ∃ u v, r = some u ∧ RelV v u ∧ Q v H)) := by
  intro pins s σ H x xs v us Q I rx rs h
  obtain ⟨z, r, rfl, rfl, e, q⟩ := h
  cases rx
  obtain ⟨u, rfl, t, rfl⟩ := rs.one
  have M := PySem.W.mapOf_K (prog := X.prog) (w := X.w) I.kIn D.at_ D.lit
  refine call_meetsIn PySem.F.slot_dict_get M.typeIs PySem.F.entry_dict_get (PySem.F.args_dict_get_2 _ _) (PySem.meets_dict_get _ d (PySem.strKind_is X.prog X.w z t) D.low) ⟨_, M, ?_⟩
  rw [PySem.W.find_K D.at_ e]
  rcases q with ⟨rfl, q⟩ | ⟨u, v, rfl, r, q⟩
  · exact ⟨.non, H, I.tok _, rfl, q⟩
  · exact ⟨v, H, I.tok _, r, q⟩
end
end My
namespace My
open PySem L2
def tKGet (K : PySem.W.Frag) (to : TE) (te : TE) (d : Addr) : TE := fun σ H Q => to σ H fun x H1 => x = .ref d ∧ tCons te tNil σ H1 fun xs H2 => ∃ y, xs = [y] ∧ ∃ (z : Str) (r : Option Value), y = .str z ∧ PySem.W.nsIn K d z = some r ∧ ((r = none ∧ Q .non H2) ∨ ∃ u v, r = some u ∧ RelV v u ∧ Q v H2)
theorem pe_kget {X : Cx} {d : Addr} {es : Array DictEntry} {n : Nat} {o e : Expr} {to te : TE} {apos cpos : Pos} (D : KDict X.K X.w d es n) (ho : PE X o to) (he : PE X e te)
    (hbase : attributeBase o "get" X.env (eval o X.env) = eval o X.env := by rfl)
    (hfew : ((backTo cpos (starEach [e] X.env)).all (fun x => !x.1) && (backToKw cpos (keywordEach [] X.env)).all (fun x => x.1.isSome)
      && decide ([e].length + ([] : List Keyword).length + (if ([] : List Keyword).isEmpty then 0 else 1) < 30)) = true := by rfl)
    (hline : (apos.endLine == cpos.line) = true := by rfl) (hs : starEach [e] X.env = (false, eval e X.env) :: starEach [] X.env := by rfl) (hplain : (backTo cpos (starEach [] X.env)).any (·.1) = false := by rfl) :
    PE X (.Call (.Attribute o "get" apos) [e] [] cpos) (tKGet X.K to te d) := by
  have ha : PA X [e] (tCons te tNil) := pa_cons he pa_nil (hs := hs)
  refine ⟨fun pins s σ H Q I h => ?_⟩
  refine wpAny_Call_method_late hbase hfew hline rfl (thn (ho.run pins s σ H _ I h) fun v s1 ⟨x, H1, I1, r1, hx, q1⟩ => ?_)
  subst hx
  cases r1
  have M := PySem.W.mapOf_K (prog := X.prog) (w := X.w) I1.kIn D.at_ D.lit
  refine ⟨"dict", "dict.get", PySem.F.plainAttrs_dict, PySem.F.slot_dict_get, PySem.F.type_dict_get, M.typeIs, (fun a e => ?_), ?_⟩
  · cases e
    exact ⟨_, I1.kIn _ _ D.at_, rfl⟩
  · have hA := ha.run cpos pins s1 σ H1 _ I1 (show tCons te tNil σ H1 (fun xs H2 => ∃ y, xs = [y] ∧ ∃ (z : Str) (r : Option Value), y = .str z ∧ PySem.W.nsIn X.K d z = some r ∧ ((r = none ∧ Q .non H2) ∨ ∃ u v, r = some u ∧ RelV v u ∧ Q v H2)) from q1)
    rw [hs] at hA ⊢
    refine Calls.callWith_builtin (by show (false || (backTo cpos (starEach [] X.env)).any (·.1)) = false; rw [hplain] <;> rfl) (Calls.evalArgs_plain ?_)
    refine thn hA fun us s2 ⟨vs, H2, I2, r2, y, hy, z, r, hz, e, q2⟩ => ?_
    subst hy hz
    exact mt_kget D pins s2 σ H2 (.ref d) [.str z] (.ref d) us Q I2 rfl r2 ⟨z, r, rfl, rfl, e, q2⟩
end My
namespace My
open PySem L2 SX XT XS XE XD XL XZ
open C8 (pss_cut tCut cutS_slice pe_gc)
theorem emp_app (x : Str) : Str.empty ++ x = x := by
  cases x with
  | mk a =>
    show Str.mk (#[] ++ a) = Str.mk a
    rw [Array.empty_append]
theorem lt5 {x : Str} (h : x.length ≤ 100000) : x.length ≤ sizeLine := Nat.le_trans h (by decide)
theorem nd {p : Prop} [Decidable p] (h : ¬ decide p = true) : ¬ p := fun z => h (decide_eq_true z)
theorem Same.rf {H : Hp} : Same H H := fun _ _ e => e
theorem Err.mono {E E' : XK} {C : Addr} {H : Hp} {k m : Str} (he : ∀ c d H', E c d H' → E' c d H') (h : Err E C H k m) : Err E' C H k m := fun d hd => he _ _ _ (h d hd)
section
variable {P : Program} {w : World} {K : PySem.W.Frag} {mg : Str → Option Value} {base : Heap} {A : Ads}
def spCSX (A : Ads) : Sp := fun vs H Q E => ∃ i : Int, vs = [.int i] ∧ (i ≤ 1000 → Q .non H) ∧ (1000 < i → Err E A.ScriptError H "SizeError" "too large")
theorem ok_check_sizeX (L : Lib P K mg A) : FnOk P w K mg base (L2.CX P w) 3 L.check_size.f L.check_size.fd ["size"] (spCSX A) := by
  refine L.check_size.F.okX sc_check_size (fun vs H Q E h => ?_) (fun cdv A' outer s H vs Q E hr h => ?_)
  · obtain ⟨i, rfl, _⟩ := h
    rfl
  · obtain ⟨i, rfl, q1, q2⟩ := h
    refine ⟨_, (pss_one (ps_if (pt_cmpR op_gt (pv 0) (pe_glob (v := .int 1000) (by rfl) L.v_MOST_HELD.choose_spec ⟨_, rfl⟩) (nomark _))
        (pss_one (ps_raise2 rfl L.x_ScriptError.T (L.x_ScriptError.F _ _) (hr.mono (by omega)) (takes_of rfl rfl rfl rfl) L.x_ScriptError.b (by rfl) L.x_ScriptError.g (pa_cons pe_str (pa_cons pe_str pa_nil))))
        pss_nil)), ?_⟩
    refine ⟨_, rfl, _, _, rfl, rfl, _, rfl, ite_or (fun e => ?_) fun e => ?_⟩
    · exact made2 (by decide +kernel) (by decide +kernel) (q2 (of_decide_eq_true e))
    · exact q1 (by have := of_decide_eq_false e; omega)
/-- a new list, or too large -/
def NewOr (P : Program) (w : World) (A : Ads) (a : Sa) (S : St) (H : Hp) (ds : List Dv) (Q : VK) (E : XK) : Prop :=
  (ds.length ≤ 1000 → New P w A a S H (.parts ds) Q) ∧ (1000 < ds.length → ∀ H', Same H H' → Err E A.ScriptError H' "SizeError" "too large")
theorem New.same {a : Sa} {S : St} {H H' : Hp} {d : Th} {Q : VK} (s : Same H H') (n : New P w A a S H d Q) : New P w A a S H' d Q := fun H2 r a' ev sm hr => n H2 r a' ((Ev.same s).trans ev) sm hr
theorem NewOr.same {a : Sa} {S : St} {H H' : Hp} {ds : List Dv} {Q : VK} {E : XK} (s : Same H H') (n : NewOr P w A a S H ds Q E) : NewOr P w A a S H' ds Q E := ⟨fun h => (n.1 h).same s, fun h H2 s2 => n.2 h H2 (s.trans s2)⟩
def spMLX (P : Program) (w : World) (K : PySem.W.Frag) (A : Ads) : Sp := fun vs H Q E => ∃ (a : Sa) (S : St) (l : Addr) (us : List V) (ds : List Dv), vs = [.ref a.s, .ref l] ∧ SM P w A H a S ∧ SqL K H l us ∧ Hs A H us ds ∧ S.things.length < 100000 ∧ NewOr P w A a S H ds Q E
theorem ok_make_listX (L : Lib P K mg A) : FnOk P w K mg base (L2.CX P w) 5 L.make_list.f L.make_list.fd ["store", "values"] (spMLX P w K A) := by
  have G_check_sizeX : FnOk P w K mg base (L2.CX P w) 3 L.check_size.f L.check_size.fd ["size"] (spCSX A) := ok_check_sizeX L
  have G_Store_make : FnOk P w K mg base CX0 3 L.Store_make.f L.Store_make.fd ["self", "thing"] (spMake P w A) := ok_Store_make L
  have G_Parts_init : FnOk P w K mg base CX0 1 L.Parts_init.f L.Parts_init.fd ["self", "held"] (spHI A.Parts "held" K) := ok_Parts_init L
  refine L.make_list.F.okX sc_make_list (fun vs H Q E h => ?_) (fun cdv A' outer s H vs Q E hr h => ?_)
  · obtain ⟨a, S, l, us, ds, rfl, _⟩ := h
    rfl
  · obtain ⟨a, S, l, us, ds, rfl, hS, hl, hd, hb, qn, qe⟩ := h
    have hul := hd.len
    refine ⟨_, (pss_cons (ps_expr (pe_callS G_check_sizeX (hr.mono (by omega)) (by rfl) L.check_size.g L.check_size.F.kp L.check_size.b (fun σ => passAt (takes_of rfl rfl rfl rfl) σ) (pa_cons (pe_callB call_len_seq (by rfl) L.z_len PySem.boot_len (pa_cons (pv 1) pa_nil)) pa_nil)))
      (pss_one (ps_ret (pe_meth (pv 0) L.c_Store.cl L.Store_make.m G_Store_make (hr.mono (by omega)) L.Store_make.b .nil pass0 (pa_cons (pe_make L.Parts_init.m G_Parts_init (hr.mono (by omega)) (by rfl) L.c_Parts.g L.Parts_init.b .nil pass0 (pa_cons (pv 1) pa_nil)) pa_nil))))), ?_⟩
    refine ⟨_, rfl, l, us, rfl, .inl hl, _, rfl, fun hn => ?_, fun hn => ?_⟩
    · obtain ⟨dx, h1⟩ := hS.s_
      refine ⟨_, rfl, a.s, dx, _, rfl, h1, st_no _ _ _ _ (by decide +kernel) (by decide +kernel) (by decide +kernel) (by decide +kernel), _, rfl, ?_⟩
      intro x dy nx ndx ndxx
      have sm0 : Same H (upd (upd H dy (.own x)) x (.ins A.Parts dy [])) := fun b u e => by
        rw [upd_ne (ne_of_none e nx), upd_ne (ne_of_none e ndx)]
        exact e
      refine ⟨x, dy, l, us, rfl, upd_same, sm0.seq hl, fun H1 m k1 hx nm hm => ⟨rfl, ?_⟩⟩
      have s1 := Same.made nx ndx k1
      have nm0 : H m = none := sm0.free nm
      obtain ⟨g1, g2, g3⟩ := hS.grow L s1 nx nm0
      refine ⟨a, S, x, m, .parts ds, rfl, hS.same s1, ⟨dy, us, hx, hm, hd.imp fun _ _ h => h.sv (Same.sv s1)⟩, g1, g2, hb, fun H2 r k2 hS2 nr hr2 => ?_⟩
      exact qn (by omega) H2 r _ (g3 H2 k2) hS2 hr2
    · exact qe (by omega) H fun _ _ e => e
/-! ### arguments -/
def arM (n m : Nat) : Str := ("expected " : Str) ++ (toString ((n : Nat) : Int) : String) ++ (" arguments, got " : Str) ++ (toString ((m : Nat) : Int) : String)
theorem arM_len : ∀ n, n < 12 → ∀ m, m < 12 → (arM n m).length ≤ 100000 ∧ (("expected " : Str) ++ ((toString ((n : Nat) : Int) : String) : Str)).length ≤ 100000 ∧ (("expected " : Str) ++ ((toString ((n : Nat) : Int) : String) : Str) ++ (" arguments, got " : Str)).length ≤ 100000 := by decide +kernel
theorem log_small : ∀ n, n < 12 → ((n : Nat) : Int).natAbs.log2 < 1920 := by decide +kernel
def spCCX (K : PySem.W.Frag) (A : Ads) : Sp := fun vs H Q E => ∃ l xs n, vs = [.ref l, .int ((n : Nat) : Int)] ∧ SqL K H l xs ∧ xs.length ≤ 10 ∧ n ≤ 10 ∧ (xs.length = n → Q .non H) ∧ (xs.length ≠ n → Err E A.ScriptError H "ArityError" (arM n xs.length))
theorem ok_check_countX (L : Lib P K mg A) : FnOk P w K mg base (L2.CX P w) 3 L.check_count.f L.check_count.fd ["values", "wanted"] (spCCX K A) := by
  refine L.check_count.F.okX sc_check_count (fun vs H Q E h => ?_) (fun cdv A' outer s H vs Q E hr h => ?_)
  · obtain ⟨l, xs, n, rfl, _⟩ := h
    rfl
  · obtain ⟨l, xs, n, rfl, hl, hz, hn, q1, q2⟩ := h
    refine ⟨_, (pss_one (ps_if (pt_cmpR op_ne (pe_callB call_len_seq (by rfl) L.z_len PySem.boot_len (pa_cons (pv 0) pa_nil)) (pv 1) (nomark _))
        (pss_one (ps_raise2 rfl L.x_ScriptError.T (L.x_ScriptError.F _ _) (hr.mono (by omega)) (takes_of rfl rfl rfl rfl) L.x_ScriptError.b (by rfl) L.x_ScriptError.g (pa_cons pe_str (pa_cons (pe_joined (.cons pe_str (.cons (pe_fmt (pv 1)) (.cons pe_str (.cons (pe_fmt (pe_callB call_len_seq (by rfl) L.z_len PySem.boot_len (pa_cons (pv 0) pa_nil))) .nil))))) pa_nil))))
        pss_nil)), ?_⟩
    refine ⟨_, rfl, l, xs, rfl, .inl hl, _, rfl, rfl, _, rfl, ?_⟩
    by_cases e : xs.length = n
    · subst e
      exact ite2 (fun h => by simp at h) fun _ => q1 rfl
    · refine ite2 (fun _ => ?_) fun h => by simp at h; omega
      obtain ⟨b1, b2, b3⟩ := arM_len n (by omega) xs.length (by omega)
      refine ⟨_, rfl, lt5 (by decide +kernel), _, rfl, .inr ⟨_, rfl, log_small n (by omega), _, rfl, ?_, _, rfl, ?_, ?_⟩⟩
      · rw [emp_app]; exact lt5 b2
      · rw [emp_app]; exact lt5 b3
      refine ⟨_, rfl, l, xs, rfl, .inl hl, .inr ⟨_, rfl, log_small _ (by omega), _, rfl, ?_, ?_⟩⟩
      · rw [emp_app]; exact lt5 b1
      · rw [emp_app]
        exact made2 (by decide +kernel) b1 (q2 e)
def fits (S : St) (d : Dv) (k : Str) : Bool := decide (k = "any") || decide (k = kindD S d) || (decide (k = "key") && keyD d)
def kindsM : List Str := ["any", "key", "map", "integer"]
theorem kindsM_dec : ∀ k ∈ kindsM, decide (V.str k = V.str "key") = decide (k = "key") ∧ decide (V.str k = V.str "any") = decide (k = "any") := by decide +kernel
def spCKX (P : Program) (w : World) (A : Ads) : Sp := fun vs H Q E => ∃ (a : Sa) (S : St) (v : V) (d : Dv) (k : Str), vs = [.ref a.s, v, .str k] ∧ SM P w A H a S ∧ Has A H v d ∧ okV S d ∧ k ∈ kindsM ∧ ∀ H', Same H H' → (fits S d k = true → Q .non H') ∧ (fits S d k = false → Err E A.ScriptError H' "KindError" "wrong argument")
theorem ok_check_kind (L : Lib P K mg A) : FnOk P w K mg base (L2.CX P w) 3 L.check_kind.f L.check_kind.fd ["store", "value", "kind"] (spCKX P w A) := by
  have G_kind_of : FnOk P w K mg base CX0 2 L.kind_of.f L.kind_of.fd ["store", "value"] (spKO P w A) := ok_kind_of L
  have G_is_key : FnOk P w K mg base CX0 1 L.is_key.f L.is_key.fd ["value"] (spIK A) := ok_is_key L
  refine L.check_kind.F.okX sc_check_kind (fun vs H Q E h => ?_) (fun cdv A' outer s H vs Q E hr h => ?_)
  · obtain ⟨a, S, v, d, k, rfl, _⟩ := h
    rfl
  · obtain ⟨a, S, v, d, k, rfl, hS, hv, ho, hk, q⟩ := h
    obtain ⟨k1, k2⟩ := kindsM_dec k hk
    refine ⟨_, (pss_cons (ps_if (PW.pt (pw_or (pt_cmpR op_eq (pv 2) pe_str (nomark _)) (pw_or1 (pt_cmpR op_eq (pv 2) (pe_call G_kind_of (hr.mono (by omega)) (by rfl) L.kind_of.g L.kind_of.F.kp L.kind_of.b .nil pass0 (pa_cons (pv 0) (pa_cons (pv 1) pa_nil))) (nomark _)))))
        (pss_one ps_retN)
        pss_nil)
      (pss_cons (ps_if (PW.pt (pw_and (pt_cmpR op_eq (pv 2) pe_str (nomark _)) (pw_and1 (pt_val (pe_call G_is_key (hr.mono (by omega)) (by rfl) L.is_key.g L.is_key.F.kp L.is_key.b .nil pass0 (pa_cons (pv 1) pa_nil))))))
        (pss_one ps_retN)
        pss_nil)
      (pss_one (ps_raise2 rfl L.x_ScriptError.T (L.x_ScriptError.F _ _) (hr.mono (by omega)) (takes_of rfl rfl rfl rfl) L.x_ScriptError.b (by rfl) L.x_ScriptError.g (pa_cons pe_str (pa_cons pe_str pa_nil)))))), ?_⟩
    refine ⟨_, rfl, rfl, _, rfl, ite_or (fun h => iteT ((q H Same.rf).1 ?_)) fun h => ?_⟩
    · rw [k2] at h
      unfold fits
      rw [h, Bool.true_or, Bool.true_or]
    rw [k2] at h
    refine ⟨_, rfl, _, rfl, _, rfl, a, S, v, d, rfl, hS, hv, ho, rfl, _, rfl, ?_⟩
    refine ite_or (fun e => (q H Same.rf).1 ?_) fun e => ?_
    · unfold fits
      have := of_decide_eq_true e
      injection this with this
      rw [h, decide_eq_true this, Bool.or_true, Bool.true_or]
    have e' : decide (k = kindD S d) = false := decide_eq_false fun z => of_decide_eq_false e (by rw [z])
    refine ⟨_, rfl, rfl, _, rfl, ?_⟩
    rw [k1]
    by_cases c : k = "key"
    · rw [decide_eq_true c]
      refine iteT ⟨_, rfl, v, d, rfl, hv, fun H' s' => ⟨_, rfl, ite_or (fun e2 => (q H' s').1 ?_) fun e2 => ?_⟩⟩
      · unfold fits
        rw [decide_eq_true c, e2, Bool.and_true, Bool.or_true]
      · refine made2 (by decide +kernel) (by decide +kernel) ((q H' s').2 ?_)
        unfold fits
        rw [h, e', decide_eq_true c, e2]
        rfl
    · rw [decide_eq_false c]
      refine iteF (iteF ?_)
      refine made2 (by decide +kernel) (by decide +kernel) ((q H Same.rf).2 ?_)
      unfold fits
      rw [h, e', decide_eq_false c]
      rfl
/-- all arguments fit -/
def fitsA (S : St) : List Dv → List Str → Bool
  | d :: ds, k :: ks => fits S d k && fitsA S ds ks
  | _, _ => true
theorem fitsA_take {S : St} : ∀ {ds : List Dv} {ks : List Str} {i : Nat} {d : Dv} {k : Str}, fitsA S (ds.take i) (ks.take i) = true → ds[i]? = some d → ks[i]? = some k → fits S d k = false → fitsA S ds ks = false
  | d :: ds, k :: ks, 0, _, _, _, e1, e2, h => by
    simp at e1 e2
    subst e1 e2
    simp [fitsA, h]
  | d :: ds, k :: ks, i + 1, _, _, g, e1, e2, h => by
    simp at e1 e2
    simp only [List.take_succ_cons, fitsA, Bool.and_eq_true] at g
    have := fitsA_take g.2 e1 e2 h
    simp [fitsA, this]
  | [], _, _, _, _, _, e1, _, _ => by simp at e1
  | _ :: _, [], _, _, _, _, _, e2, _ => by simp at e2
theorem fitsA_snoc {S : St} : ∀ {ds : List Dv} {ks : List Str} {i : Nat} {d : Dv} {k : Str}, fitsA S (ds.take i) (ks.take i) = true → ds[i]? = some d → ks[i]? = some k → fits S d k = true → fitsA S (ds.take (i + 1)) (ks.take (i + 1)) = true
  | d :: ds, k :: ks, 0, _, _, _, e1, e2, h => by
    simp at e1 e2
    subst e1 e2
    simp [fitsA, h]
  | d :: ds, k :: ks, i + 1, _, _, g, e1, e2, h => by
    simp at e1 e2
    simp only [List.take_succ_cons, fitsA, Bool.and_eq_true] at g ⊢
    exact ⟨g.1, fitsA_snoc g.2 e1 e2 h⟩
  | [], _, _, _, _, _, e1, _, _ => by simp at e1
  | _ :: _, [], _, _, _, _, _, e2, _ => by simp at e2
theorem Hs.atv {A : Ads} {H : Hp} : ∀ {vs : List V} {ds : List Dv} {i : Nat} {v : V}, Hs A H vs ds → vs[i]? = some v → ∃ d, ds[i]? = some d ∧ Has A H v d
  | _ :: _, _ :: _, 0, _, h, e => by
    simp at e
    exact ⟨_, rfl, e ▸ h.1⟩
  | _ :: _, _ :: _, i + 1, _, h, e => by
    simp at e
    obtain ⟨v, e1, e2⟩ := Hs.atv h.2 e
    exact ⟨v, by simpa using e1, e2⟩
  | [], _ :: _, _, _, h, _ => h.elim
  | _ :: _, [], _, _, h, _ => h.elim
  | [], [], _, _, _, e => by simp at e
def spCAX (P : Program) (w : World) (K : PySem.W.Frag) (A : Ads) : Sp := fun vs H Q E => ∃ (a : Sa) (S : St) (l t : Addr) (us : List V) (ds : List Dv) (ks : List Str), vs = [.ref a.s, .ref l, .ref t] ∧ SM P w A H a S ∧ SqL K H l us ∧ Hs A H us ds ∧ (∀ d ∈ ds, okV S d) ∧ ds.length ≤ 10 ∧
  (∀ H, SqT K H t (ks.map V.str)) ∧ (∀ k ∈ ks, k ∈ kindsM) ∧ ks.length ≤ 10 ∧ (ds.length ≠ ks.length → Err E A.ScriptError H "ArityError" (arM ks.length ds.length)) ∧
  (ds.length = ks.length → ∀ H', Same H H' → (fitsA S ds ks = true → Q .non H') ∧ (fitsA S ds ks = false → Err E A.ScriptError H' "KindError" "wrong argument"))
theorem ok_check_arguments (L : Lib P K mg A) : FnOk P w K mg base (L2.CX P w) 4 L.check_arguments.f L.check_arguments.fd ["store", "values", "kinds"] (spCAX P w K A) := by
  have G_check_countX : FnOk P w K mg base (L2.CX P w) 3 L.check_count.f L.check_count.fd ["values", "wanted"] (spCCX K A) := ok_check_countX L
  have G_check_kind : FnOk P w K mg base (L2.CX P w) 3 L.check_kind.f L.check_kind.fd ["store", "value", "kind"] (spCKX P w A) := ok_check_kind L
  refine L.check_arguments.F.okX sc_check_arguments (fun vs H Q E h => ?_) (fun cdv A' outer s H vs Q E hr h => ?_)
  · obtain ⟨a, S, l, t, us, ds, ks, rfl, _⟩ := h
    rfl
  · obtain ⟨a, S, l, t, us, ds, ks, rfl, hS, hl, hd, ho, hz, ht, hk, hkz, q1, q2⟩ := h
    have hul := hd.len
    refine ⟨_, (pss_cons (ps_expr (pe_callS G_check_countX (hr.mono (by omega)) (by rfl) L.check_count.g L.check_count.F.kp L.check_count.b (fun σ => passAt (takes_of rfl rfl rfl rfl) σ) (pa_cons (pv 1) (pa_cons (pe_callB call_len_seq (by rfl) L.z_len PySem.boot_len (pa_cons (pv 2) pa_nil)) pa_nil))))
      (pss_one (ps_for (passes_of rfl) rfl (pi_zipM (by rfl) L.z_zip (pa_cons (pv 1) (pa_cons (pv 2) pa_nil))) (pg_tup (by rfl) (pgs_cons (pg_name (i := 3) sc_check_arguments.nd rfl (.inl rfl)) (pgs_cons (pg_name (i := 4) sc_check_arguments.nd rfl (.inl rfl)) pgs_nil)))
        (pss_one (ps_expr (pe_callS G_check_kind (hr.mono (by omega)) (by rfl) L.check_kind.g L.check_kind.F.kp L.check_kind.b (fun σ => passAt (takes_of rfl rfl rfl rfl) σ) (pa_cons (pv 0) (pa_cons (pv 3) (pa_cons (pv 4) pa_nil))))))))), ?_⟩
    refine ⟨_, rfl, _, rfl, t, _, rfl, .inr (ht H), l, us, ks.length, by rw [List.length_map], hl, by omega, hkz, fun len => ?_, fun ne => by rw [hul]; exact q1 (by omega)⟩
    have q := q2 (by omega)
    refine ⟨_, rfl, _, rfl, l, t, us, _, rfl, hl, ht H, for_zipM (show us.length = (ks.map V.str).length by rw [List.length_map]; exact len) (fun i σ H' => ∃ y3 y4 : Option V, σ = [some (.ref a.s), some (.ref l), some (.ref t), y3, y4] ∧ Same H H' ∧ fitsA S (ds.take i) (ks.take i) = true) ⟨none, none, rfl, Same.rf, by simp [fitsA]⟩ (fun i σ H' h => ?_) ?_ ?_⟩
    · obtain ⟨_, _, _, s1, _⟩ := h
      exact ⟨s1.seq hl, ht H'⟩
    · rintro i x y T σ H1 hx hy ⟨y3, y4, rfl, s1, ff⟩ hT
      rw [List.getElem?_map] at hy
      cases hki : ks[i]? with
      | none => rw [hki] at hy; cases hy
      | some k =>
        rw [hki] at hy
        cases hy
        obtain ⟨d, hdi, hxd⟩ := hd.atv hx
        have s2 : Same H (upd H1 T (.tup [x, .str k])) := s1.trans (same_upd hT)
        refine ⟨T, [x, .str k], rfl, .inl (.inl upd_same), rfl, ?_⟩
        refine ⟨_, _, rfl, _, _, rfl, rfl, ?_⟩
        refine ⟨_, rfl, _, rfl, _, rfl, a, S, x, d, k, rfl, hS.same s2, hxd.sv (Same.sv s2), ho _ (List.mem_of_getElem? hdi), hk _ (List.mem_of_getElem? hki), fun H2 s3 => ⟨fun f => ⟨_, _, rfl, s2.trans s3, fitsA_snoc ff hdi hki f⟩, fun f => (q _ (s2.trans s3)).2 (fitsA_take ff hdi hki f)⟩⟩
    · rintro σ H1 ⟨y3, y4, rfl, s1, ff⟩
      refine (q H1 s1).1 ?_
      rw [hul] at ff
      rw [List.take_length, show ds.length = ks.length by omega, List.take_length] at ff
      exact ff
def spCKeyX (A : Ads) : Sp := fun vs H Q E => ∃ v d, vs = [v] ∧ Has A H v d ∧ ∀ H', Same H H' → (keyD d = true → Q .non H') ∧ (keyD d = false → Err E A.ScriptError H' "KindError" "keys are null, booleans, integers and texts")
theorem ok_check_keyX (L : Lib P K mg A) : FnOk P w K mg base (L2.CX P w) 3 L.check_key.f L.check_key.fd ["key"] (spCKeyX A) := by
  have G_is_key : FnOk P w K mg base CX0 1 L.is_key.f L.is_key.fd ["value"] (spIK A) := ok_is_key L
  refine L.check_key.F.okX sc_check_key (fun vs H Q E h => ?_) (fun cdv A' outer s H vs Q E hr h => ?_)
  · obtain ⟨v, d, rfl, _⟩ := h
    rfl
  · obtain ⟨v, d, rfl, hv, q⟩ := h
    refine ⟨_, (pss_one (ps_if (pt_not (pt_val (pe_call G_is_key (hr.mono (by omega)) (by rfl) L.is_key.g L.is_key.F.kp L.is_key.b .nil pass0 (pa_cons (pv 0) pa_nil))))
        (pss_one (ps_raise2 rfl L.x_ScriptError.T (L.x_ScriptError.F _ _) (hr.mono (by omega)) (takes_of rfl rfl rfl rfl) L.x_ScriptError.b (by rfl) L.x_ScriptError.g (pa_cons pe_str (pa_cons pe_str pa_nil))))
        pss_nil)), ?_⟩
    refine ⟨_, rfl, v, d, rfl, hv, fun H' s' => ⟨_, rfl, ?_⟩⟩
    cases hk : keyD d with
    | true => exact iteF ((q H' s').1 hk)
    | false => exact iteT (made2 (by decide +kernel) (by decide +kernel) ((q H' s').2 hk))
end
end My
namespace My
open PySem L2 SX XT XS XE XD XL XZ
open C8 (pss_cut tCut cutS_slice pe_gc)
def dropE (es : List (Dv × Dv)) (k : Dv) : List (Dv × Dv) := es.filter fun p => decide (p.1 ≠ k)
theorem Ents.drop {A : Ads} {H : Hp} {k : Dv} (hk : keyD k = true) : ∀ {es : List Ent} {ps : List (Dv × Dv)}, Ents A H es ps → Ents A H (dropT es (toV k)) (dropE ps k)
  | [], [], _ => trivial
  | e :: es, p :: ps, ⟨⟨k1, k2, q, v, k3, k4, k5⟩, r⟩ => by
    have ih := Ents.drop hk r
    unfold dropT dropE at ih ⊢
    by_cases c : p.1 = k
    · have c2 : e.1 = toV k := by rw [k2, c]
      rw [List.filter_cons, List.filter_cons, if_neg (by simp [c2]), if_neg (by simp [c])]
      exact ih
    · have c2 : ¬ e.1 = toV k := fun z => c (toV_inj k1 hk (k2.symm.trans z))
      rw [List.filter_cons, List.filter_cons, if_pos (by simp [c2]), if_pos (by simp [c])]
      exact ⟨⟨k1, k2, q, v, k3, k4, k5⟩, ih⟩
  | [], _ :: _, h => h.elim
  | _ :: _, [], h => h.elim
theorem Ents.get {A : Ads} {H : Hp} {k d : Dv} (hk : keyD k = true) : ∀ {es : List Ent} {ps : List (Dv × Dv)}, Ents A H es ps → valE ps k = some d → ∃ q v, valT es (toV k) = some (.ref q) ∧ H q = some (.tup [toV k, v]) ∧ Has A H v d
  | [], [], _, e => by cases e
  | e :: es, p :: ps, ⟨⟨k1, k2, q, v, k3, k4, k5⟩, r⟩, h => by
    unfold valE at h
    unfold valT
    by_cases c : p.1 = k
    · have c2 : e.1 = toV k := by rw [k2, c]
      rw [List.find?_cons, decide_eq_true c] at h
      rw [List.find?_cons, decide_eq_true c2]
      cases h
      exact ⟨q, v, by rw [← k3]; rfl, by rw [← c2]; exact k4, k5⟩
    · have c2 : ¬ e.1 = toV k := fun z => c (toV_inj k1 hk (k2.symm.trans z))
      rw [List.find?_cons, decide_eq_false c] at h
      rw [List.find?_cons, decide_eq_false c2]
      exact Ents.get hk r h
  | [], _ :: _, h, _ => h.elim
  | _ :: _, [], h, _ => h.elim
theorem dropE_nd {es : List (Dv × Dv)} {k : Dv} (h : (es.map Prod.fst).Nodup) : ((dropE es k).map Prod.fst).Nodup := by
  unfold dropE
  induction es with
  | nil => exact h
  | cons p ps ih =>
    rw [List.map_cons, List.nodup_cons] at h
    rw [List.filter_cons]
    split
    · rw [List.map_cons, List.nodup_cons]
      refine ⟨fun z => h.1 ?_, ih h.2⟩
      obtain ⟨q, hq, e⟩ := List.mem_map.mp z
      exact List.mem_map.mpr ⟨q, (List.mem_filter.mp hq).1, e⟩
    · exact ih h.2
theorem dropE_len {es : List (Dv × Dv)} {k : Dv} : (dropE es k).length ≤ es.length := List.length_filter_le _ _
section
variable {P : Program} {w : World} {K : PySem.W.Frag} {mg : Str → Option Value} {base : Heap} {A : Ads}
theorem SM.setK {H H' : Hp} {a : Sa} {S : St} {i : Nat} {x m : Addr} {d : Th} (h : SM P w A H a S) (hX : a.X[i]? = some x) (hM : a.M[i]? = some m) (kp : Keep m H H') (k : Vk A H H') (hd : ThAt P w A H' x m d) :
    SM P w A H' a { S with things := S.things.set i d } := by
  have mm := List.mem_of_getElem? hM
  have hm3 : m ≠ a.t ∧ m ≠ a.o ∧ m ≠ a.l := by
    have := h.nd
    simp only [List.nodup_cons, List.mem_cons, not_or] at this
    exact ⟨fun z => this.1.2.2 (z ▸ mm), fun z => this.2.1.2 (z ▸ mm), fun z => this.2.2.1 (z ▸ mm)⟩
  have hMn : a.M.Nodup := by
    have := h.nd
    simp only [List.nodup_cons] at this
    exact this.2.2.2
  obtain ⟨tm, xm, hmt⟩ := h.ms mm
  obtain ⟨um, hum, hni, _⟩ := hmt.m
  have nins : ∀ {b : Addr} {C dx : Addr} {fs : List (Str × V)}, H b = some (.ins C dx fs) → b ≠ m := fun e z => by
    rw [z, hum] at e
    exact hni _ _ _ (Option.some.inj e)
  obtain ⟨dx, e⟩ := h.s_
  refine ⟨⟨dx, kp _ _ e (nins e)⟩, kp _ _ h.t_ hm3.1.symm, kp _ _ h.o_ hm3.2.1.symm, kp _ _ h.l_ hm3.2.2.symm, by rw [List.length_set]; exact h.lx, by rw [List.length_set]; exact h.lm, ?_, h.nd, h.nx⟩
  intro j x' m' d' e1 e2 e3
  by_cases hij : i = j
  · subst hij
    rw [hX] at e1
    rw [hM] at e2
    cases e1
    cases e2
    have hl := (List.getElem?_eq_some_iff.mp e3).1
    rw [List.length_set] at hl
    rw [List.getElem?_set_self hl] at e3
    cases e3
    exact hd
  · rw [List.getElem?_set_ne hij] at e3
    have t := h.th j x' m' d' e1 e2 e3
    refine t.imp k (fun u' e => ?_) (fun u' e => ?_)
    · obtain ⟨dx', fs', ex⟩ := t.x
      exact kp _ _ e (nins ex)
    · have hne : m' ≠ m := fun z => by
        rw [z] at e2
        exact hij (nodup_get hMn hM e2)
      exact kp _ _ e hne
/-- of a part that no value is: values and tuples stay -/
theorem vk_part {H H' : Hp} {m : Addr} {u : HO} (hu : H m = some u) (n1 : ∀ C dx fs, u ≠ .ins C dx fs) (n2 : ∀ xs, u ≠ .tup xs) (k : Keep m H H') : Vk A H H' := ⟨fun v d h => by
  cases d with
  | obj n =>
    obtain ⟨b, dx, rfl, e⟩ := h
    exact ⟨b, dx, rfl, k _ _ e fun z => by rw [z, hu] at e; exact n1 _ _ _ (Option.some.inj e)⟩
  | bi n =>
    obtain ⟨b, dx, rfl, e⟩ := h
    exact ⟨b, dx, rfl, k _ _ e fun z => by rw [z, hu] at e; exact n1 _ _ _ (Option.some.inj e)⟩
  | _ => exact h, fun q xs e => k _ _ e fun z => by rw [z, hu] at e; exact n2 _ (Option.some.inj e)⟩
theorem ev_part {H H' : Hp} {a : Sa} {m : Addr} (hm : m ∈ a.M) (k : Keep m H H') : Ev a a H H' := ⟨fun b u e n => k _ _ e fun z => n (.inr (.inr (.inr (.inr (.inr (by rw [z]; exact hm)))))), rfl, fun _ z => .inl z⟩

def spTVal (P : Program) (w : World) (A : Ads) : Sp := fun vs H Q _ => ∃ t d es k q v, vs = [.ref t, k] ∧ TblAt P w A H t d es ∧ keyOk k = true ∧ valT es k = some (.ref q) ∧ H q = some (.tup [k, v]) ∧ ∀ H', Same H H' → Q v H'
theorem ok_Table_value_of (L : Lib P K mg A) : FnOk P w K mg base CX0 2 L.Table_value_of.f L.Table_value_of.fd ["self", "key"] (spTVal P w A) := by
  have G_tagged : FnOk P w K mg base CX0 1 L.tagged.f L.tagged.fd ["key"] spTagged := ok_tagged L
  refine L.Table_value_of.F.ok sc_Table_value_of (fun vs H Q E h => ?_) (fun cdv A' outer s H vs Q E hr h => ?_)
  · obtain ⟨t, d, es, k, q, v, rfl, _⟩ := h
    rfl
  · obtain ⟨t, d, es, k, q, v, rfl, T, hk, hv, hq, kk⟩ := h
    refine ⟨_, (pss_one (ps_ret (pe_ix ix_tup (pe_tget (units64 hr) (pe_fld (pv 0) rfl) (pe_call G_tagged (hr.mono (by omega)) (by rfl) L.tagged.g L.tagged.F.kp L.tagged.b .nil pass0 (pa_cons (pv 1) pa_nil)) (fun _ _ => rfl)) pe_int (fun _ _ => rfl)))), ?_⟩
    obtain ⟨⟨dx, h1⟩, h2, h3⟩ := id T
    refine ⟨_, rfl, t, A.Table, dx, _, _, rfl, h1, L.c_Table.cl, L.n_Table__entries, tab_lk d, _, rfl, k, rfl, hk, fun p np => ?_⟩
    have u1 := same_upd (o := .tup [.bl (isB k), k]) np
    exact ⟨d, p, k, es, .ref q, rfl, rfl, (T.same u1).tab, ⟨hk, upd_same⟩, hv, q, _, _, _, rfl, rfl, .inl (.inl (u1 _ _ hq)), atI_nat (j := 1) rfl, kk _ u1⟩
def spTTake (P : Program) (w : World) (A : Ads) : Sp := fun vs H Q _ => ∃ t d es k, vs = [.ref t, k] ∧ TblAt P w A H t d es ∧ keyOk k = true ∧ (valT es k).isSome = true ∧ ∀ H', Keep d H H' → TblAt P w A H' t d (dropT es k) → Q .non H'
theorem ok_Table_take_out (L : Lib P K mg A) : FnOk P w K mg base CX0 2 L.Table_take_out.f L.Table_take_out.fd ["self", "key"] (spTTake P w A) := by
  have G_tagged : FnOk P w K mg base CX0 1 L.tagged.f L.tagged.fd ["key"] spTagged := ok_tagged L
  refine L.Table_take_out.F.ok sc_Table_take_out (fun vs H Q E h => ?_) (fun cdv A' outer s H vs Q E hr h => ?_)
  · obtain ⟨t, d, es, k, rfl, _⟩ := h
    rfl
  · obtain ⟨t, d, es, k, rfl, T, hk, hv, kk⟩ := h
    refine ⟨_, (pss_one (ps_tdel (units64 hr) (pe_fld (pv 0) rfl) (pe_call G_tagged (hr.mono (by omega)) (by rfl) L.tagged.g L.tagged.F.kp L.tagged.b .nil pass0 (pa_cons (pv 1) pa_nil)))), ?_⟩
    obtain ⟨⟨dx, h1⟩, h2, h3⟩ := id T
    refine ⟨_, rfl, t, A.Table, dx, _, _, rfl, h1, L.c_Table.cl, L.n_Table__entries, tab_lk d, _, rfl, k, rfl, hk, fun p np => ?_⟩
    have u1 := same_upd (o := .tup [.bl (isB k), k]) np
    obtain ⟨⟨dx2, g1⟩, g2, g3⟩ := T.same u1
    have ntd : t ≠ d := fun z => by rw [z, g2.at_] at g1; cases g1
    refine ⟨d, p, k, es, rfl, rfl, g2, ⟨hk, upd_same⟩, hv, kk _ (fun b o e n => by rw [upd_ne n]; exact u1 _ _ e) ⟨⟨dx2, by rw [upd_ne ntd]; exact g1⟩, g2.drop, fun e he => ?_⟩⟩
    obtain ⟨q', e1, v', e2⟩ := g3 e (List.mem_filter.mp he).1
    exact ⟨q', e1, v', by rw [upd_ne (fun z => by rw [z, g2.at_] at e2; cases e2)]; exact e2⟩
/-- the thing n of the store is a map es, at x with its part m -/
structure Mt (P : Program) (w : World) (A : Ads) (H : Hp) (a : Sa) (S : St) (n : Nat) (x m : Addr) (es : List (Dv × Dv)) : Prop where
  sm : SM P w A H a S
  x_ : a.X[n]? = some x
  m_ : a.M[n]? = some m
  th : S.things[n]? = some (.table es)
theorem Mt.same {H H' : Hp} {a : Sa} {S : St} {n : Nat} {x m : Addr} {es : List (Dv × Dv)} (p : Mt P w A H a S n x m es) (s : Same H H') : Mt P w A H' a S n x m es := ⟨p.sm.same s, p.x_, p.m_, p.th⟩
theorem Mt.at_ {H : Hp} {a : Sa} {S : St} {n : Nat} {x m : Addr} {es : List (Dv × Dv)} (p : Mt P w A H a S n x m es) : ∃ ents, TblAt P w A H x m ents ∧ Ents A H ents es ∧ (es.map Prod.fst).Nodup ∧ es.length ≤ 1000 := p.sm.th n x m _ p.x_ p.m_ p.th
def St.putT (S : St) (n : Nat) (es : List (Dv × Dv)) : St := { S with things := S.things.set n (.table es) }
theorem Mt.upd_ {H H' : Hp} {a : Sa} {S : St} {n : Nat} {x m : Addr} {es fs : List (Dv × Dv)} {ents : List Ent} (p : Mt P w A H a S n x m es) (k : Keep m H H') (T : TblAt P w A H' x m ents) (hE : Ents A H' ents fs) (nd : (fs.map Prod.fst).Nodup) (le : fs.length ≤ 1000) :
    Ev a a H H' ∧ Mt P w A H' a (S.putT n fs) n x m fs ∧ Vk A H H' := by
  obtain ⟨en0, T0, _⟩ := p.at_
  have vk : Vk A H H' := vk_part T0.tab.at_ nofun nofun k
  refine ⟨ev_part (List.mem_of_getElem? p.m_) k, ⟨p.sm.setK p.x_ p.m_ k vk ⟨ents, T, hE, nd, le⟩, p.x_, p.m_, ?_⟩, vk⟩
  show (S.things.set n _)[n]? = _
  rw [List.getElem?_set_self (List.getElem?_eq_some_iff.mp p.th).1]
/-! the deeds of a map, told by its entries -/
def spMHas (P : Program) (w : World) (A : Ads) : Sp := fun vs H Q _ => ∃ (a : Sa) (S : St) (n : Nat) (x m : Addr) (es : List (Dv × Dv)) (v : V) (k : Dv), vs = [.ref x, v] ∧ Mt P w A H a S n x m es ∧ Has A H v k ∧ keyD k = true ∧ ∀ H', Same H H' → Q (.bl (valE es k).isSome) H'
theorem ok_mhas (L : Lib P K mg A) : FnOk P w K mg base CX0 2 L.Table_has.f L.Table_has.fd ["self", "key"] (spMHas P w A) :=
  (ok_Table_has L).imp fun vs H Q E h => by
    obtain ⟨a, S, n, x, m, es, v, k, rfl, p, hv, hk, q⟩ := h
    obtain ⟨ents, T, hE, _⟩ := p.at_
    obtain ⟨rfl, hk2⟩ := has_key hv hk
    exact ⟨x, m, ents, _, rfl, T, hk2, fun H' s => by rw [hE.val hk]; exact q H' s⟩
def spMVal (P : Program) (w : World) (A : Ads) : Sp := fun vs H Q _ => ∃ (a : Sa) (S : St) (n : Nat) (x m : Addr) (es : List (Dv × Dv)) (v : V) (k d : Dv), vs = [.ref x, v] ∧ Mt P w A H a S n x m es ∧ Has A H v k ∧ keyD k = true ∧ valE es k = some d ∧ ∀ H' u, Same H H' → Has A H' u d → Q u H'
theorem ok_mval (L : Lib P K mg A) : FnOk P w K mg base CX0 2 L.Table_value_of.f L.Table_value_of.fd ["self", "key"] (spMVal P w A) :=
  (ok_Table_value_of L).imp fun vs H Q E h => by
    obtain ⟨a, S, n, x, m, es, v, k, d, rfl, p, hv, hk, he, q⟩ := h
    obtain ⟨ents, T, hE, _⟩ := p.at_
    obtain ⟨rfl, hk2⟩ := has_key hv hk
    obtain ⟨qa, u, h1, h2, h3⟩ := hE.get hk he
    exact ⟨x, m, ents, _, qa, u, rfl, T, hk2, h1, h2, fun H' s => q H' u s (h3.sv (Same.sv s))⟩
def spMPut (P : Program) (w : World) (A : Ads) : Sp := fun vs H Q _ => ∃ (a : Sa) (S : St) (n : Nat) (x m : Addr) (es : List (Dv × Dv)) (v u : V) (k d : Dv), vs = [.ref x, v, u] ∧ Mt P w A H a S n x m es ∧ Has A H v k ∧ keyD k = true ∧ Has A H u d ∧ ((valE es k).isSome = true ∨ es.length < 1000) ∧
  ∀ H', Ev a a H H' → Vk A H H' → Mt P w A H' a (S.putT n (putE es k d)) n x m (putE es k d) → Keep m H H' → Q .non H'
theorem ok_mput (L : Lib P K mg A) : FnOk P w K mg base CX0 2 L.Table_put.f L.Table_put.fd ["self", "key", "value"] (spMPut P w A) :=
  (ok_Table_put L).imp fun vs H Q E h => by
    obtain ⟨a, S, n, x, m, es, v, u, k, d, rfl, p, hv, hk, hu, hl, q⟩ := h
    obtain ⟨ents, T, hE, nd, le⟩ := p.at_
    obtain ⟨rfl, hk2⟩ := has_key hv hk
    have el := hE.len
    refine ⟨x, m, ents, _, u, rfl, T, hk2, by omega, fun H' b qa k' T' hq nq => ?_⟩
    have vk : Vk A H H' := vk_part T.tab.at_ nofun nofun k'
    have hE' := Ents.put (b := b) (q := qa) hk hq (vk.v _ _ hu) (hE.imp vk.v vk.t)
    have le' : (putE es k d).length ≤ 1000 := by
      have := putE_len (es := es) (k := k) (v := d)
      rcases hl with h | h
      · have := this.2 h; omega
      · omega
    obtain ⟨ev, mt, _⟩ := p.upd_ k' T' hE' (putE_nd nd) le'
    exact q H' ev vk mt k'
def spMTake (P : Program) (w : World) (A : Ads) : Sp := fun vs H Q _ => ∃ (a : Sa) (S : St) (n : Nat) (x m : Addr) (es : List (Dv × Dv)) (v : V) (k : Dv), vs = [.ref x, v] ∧ Mt P w A H a S n x m es ∧ Has A H v k ∧ keyD k = true ∧ (valE es k).isSome = true ∧
  ∀ H', Ev a a H H' → Vk A H H' → Mt P w A H' a (S.putT n (dropE es k)) n x m (dropE es k) → Keep m H H' → Q .non H'
theorem ok_mtake (L : Lib P K mg A) : FnOk P w K mg base CX0 2 L.Table_take_out.f L.Table_take_out.fd ["self", "key"] (spMTake P w A) :=
  (ok_Table_take_out L).imp fun vs H Q E h => by
    obtain ⟨a, S, n, x, m, es, v, k, rfl, p, hv, hk, hs, q⟩ := h
    obtain ⟨ents, T, hE, nd, le⟩ := p.at_
    obtain ⟨rfl, hk2⟩ := has_key hv hk
    refine ⟨x, m, ents, _, rfl, T, hk2, by rw [hE.val hk]; exact hs, fun H' k' T' => ?_⟩
    have vk : Vk A H H' := vk_part T.tab.at_ nofun nofun k'
    obtain ⟨ev, mt, _⟩ := p.upd_ k' T' ((hE.imp vk.v vk.t).drop hk) (dropE_nd nd) (Nat.le_trans dropE_len le)
    exact q H' ev vk mt k'
end
end My
namespace My
open PySem L2 SX XT XS XE XD XL XZ
open C8 (pss_cut tCut cutS_slice pe_gc)
section
variable {P : Program} {w : World} {K : PySem.W.Frag} {mg : Str → Option Value} {base : Heap} {A : Ads}
theorem Mt.kind {H : Hp} {a : Sa} {S : St} {n : Nat} {x m : Addr} {es : List (Dv × Dv)} (p : Mt P w A H a S n x m es) : kindD S (.obj n) = ("map" : Str) := by
  show (match S.things[n]? with
    | some d => kindT d
    | none => ("function" : Str)) = ("map" : Str)
  rw [p.th]
  rfl
theorem Mt.ok {H : Hp} {a : Sa} {S : St} {n : Nat} {x m : Addr} {es : List (Dv × Dv)} (p : Mt P w A H a S n x m es) : okV S (.obj n) := (List.getElem?_eq_some_iff.mp p.th).1
theorem Mt.tx {H : Hp} {a : Sa} {S : St} {n : Nat} {x m : Addr} {es : List (Dv × Dv)} (p : Mt P w A H a S n x m es) : ∃ dx, H x = some (.ins A.Table dx (tabF m)) := by
  obtain ⟨ents, T, _⟩ := p.at_
  exact T.ins
def kMsg : Str := "keys are null, booleans, integers and texts"
def spVA (P : Program) (w : World) (A : Ads) : Sp := fun vs H Q E => ∃ (a : Sa) (S : St) (n : Nat) (x m : Addr) (es : List (Dv × Dv)) (v : V) (k : Dv), vs = [.ref x, v] ∧ Mt P w A H a S n x m es ∧ Has A H v k ∧
  ∀ H', Same H H' → (keyD k = false → Err E A.ScriptError H' "KindError" kMsg) ∧ (keyD k = true → valE es k = none → Err E A.ScriptError H' "KeyError" "no such key") ∧ (∀ d u, keyD k = true → valE es k = some d → Has A H' u d → Q u H')
theorem ok_value_at (L : Lib P K mg A) : FnOk P w K mg base (L2.CX P w) 4 L.value_at.f L.value_at.fd ["table", "key"] (spVA P w A) := by
  have G_check_keyX : FnOk P w K mg base (L2.CX P w) 3 L.check_key.f L.check_key.fd ["key"] (spCKeyX A) := ok_check_keyX L
  have G_Table_has : FnOk P w K mg base CX0 2 L.Table_has.f L.Table_has.fd ["self", "key"] (spMHas P w A) := ok_mhas L
  have G_Table_value_of : FnOk P w K mg base CX0 2 L.Table_value_of.f L.Table_value_of.fd ["self", "key"] (spMVal P w A) := ok_mval L
  refine L.value_at.F.okX sc_value_at (fun vs H Q E h => ?_) (fun cdv A' outer s H vs Q E hr h => ?_)
  · obtain ⟨a, S, n, x, m, es, v, k, rfl, _⟩ := h
    rfl
  · obtain ⟨a, S, n, x, m, es, v, k, rfl, p, hv, q⟩ := h
    refine ⟨_, (pss_cons (ps_expr (pe_callS G_check_keyX (hr.mono (by omega)) (by rfl) L.check_key.g L.check_key.F.kp L.check_key.b (fun σ => passAt (takes_of rfl rfl rfl rfl) σ) (pa_cons (pv 1) pa_nil)))
      (pss_cons (ps_if (pt_not (pt_val (pe_meth (pv 0) L.c_Table.cl L.Table_has.m G_Table_has (hr.mono (by omega)) L.Table_has.b .nil pass0 (pa_cons (pv 1) pa_nil))))
        (pss_one (ps_raise2 rfl L.x_ScriptError.T (L.x_ScriptError.F _ _) (hr.mono (by omega)) (takes_of rfl rfl rfl rfl) L.x_ScriptError.b (by rfl) L.x_ScriptError.g (pa_cons pe_str (pa_cons pe_str pa_nil))))
        pss_nil)
      (pss_one (ps_ret (pe_meth (pv 0) L.c_Table.cl L.Table_value_of.m G_Table_value_of (hr.mono (by omega)) L.Table_value_of.b .nil pass0 (pa_cons (pv 1) pa_nil)))))), ?_⟩
    refine ⟨_, rfl, v, k, rfl, hv, fun H1 s1 => ⟨fun hk => ?_, fun hk => (q H1 s1).1 hk⟩⟩
    have p1 := p.same s1
    obtain ⟨dx, hx⟩ := p1.tx
    have hv1 := hv.sv (Same.sv s1)
    refine ⟨_, rfl, x, dx, _, rfl, hx, tab_none (by decide +kernel), _, rfl, a, S, n, x, m, es, v, k, rfl, p1, hv1, hk, fun H2 s2 => ⟨_, rfl, ?_⟩⟩
    have s12 := s1.trans s2
    cases hval : valE es k with
    | none => exact iteT (made2 (by decide +kernel) (by decide +kernel) ((q H2 s12).2.1 hk hval))
    | some d =>
      have p2 := p.same s12
      obtain ⟨dx2, hx2⟩ := p2.tx
      refine iteF ⟨_, rfl, x, dx2, _, rfl, hx2, tab_none (by decide +kernel), _, rfl, a, S, n, x, m, es, v, k, d, rfl, p2, hv.sv (Same.sv s12), hk, hval, fun H3 u s3 hu => (q H3 (s12.trans s3)).2.2 d u hk hval hu⟩
def spPEX (P : Program) (w : World) (A : Ads) : Sp := fun vs H Q E => ∃ (a : Sa) (S : St) (n : Nat) (x m : Addr) (es : List (Dv × Dv)) (v u : V) (k d : Dv), vs = [.ref x, v, u] ∧ Mt P w A H a S n x m es ∧ Has A H v k ∧ Has A H u d ∧
  (∀ H', Same H H' → (keyD k = false → Err E A.ScriptError H' "KindError" kMsg) ∧ (keyD k = true → valE es k = none → ¬ es.length < 1000 → Err E A.ScriptError H' "SizeError" "too large")) ∧
  (keyD k = true → ((valE es k).isSome = true ∨ es.length < 1000) → ∀ H', Ev a a H H' → Vk A H H' → Mt P w A H' a (S.putT n (putE es k d)) n x m (putE es k d) → Keep m H H' → Q .non H')
theorem ok_put_entryX (L : Lib P K mg A) : FnOk P w K mg base (L2.CX P w) 4 L.put_entry.f L.put_entry.fd ["table", "key", "value"] (spPEX P w A) := by
  have G_check_keyX : FnOk P w K mg base (L2.CX P w) 3 L.check_key.f L.check_key.fd ["key"] (spCKeyX A) := ok_check_keyX L
  have G_check_sizeX : FnOk P w K mg base (L2.CX P w) 3 L.check_size.f L.check_size.fd ["size"] (spCSX A) := ok_check_sizeX L
  have G_Table_has : FnOk P w K mg base CX0 2 L.Table_has.f L.Table_has.fd ["self", "key"] (spMHas P w A) := ok_mhas L
  have G_Table_put : FnOk P w K mg base CX0 2 L.Table_put.f L.Table_put.fd ["self", "key", "value"] (spMPut P w A) := ok_mput L
  have G_Table_many : FnOk P w K mg base CX0 1 L.Table_many.f L.Table_many.fd ["self"] (spTMany P w A) := ok_Table_many L
  refine L.put_entry.F.okX sc_put_entry (fun vs H Q E h => ?_) (fun cdv A' outer s H vs Q E hr h => ?_)
  · obtain ⟨a, S, n, x, m, es, v, u, k, d, rfl, _⟩ := h
    rfl
  · obtain ⟨a, S, n, x, m, es, v, u, k, d, rfl, p, hv, hu, q1, q2⟩ := h
    refine ⟨_, (pss_cons (ps_expr (pe_callS G_check_keyX (hr.mono (by omega)) (by rfl) L.check_key.g L.check_key.F.kp L.check_key.b (fun σ => passAt (takes_of rfl rfl rfl rfl) σ) (pa_cons (pv 1) pa_nil)))
      (pss_cut (ps_if (pt_not (pt_val (pe_meth (pv 0) L.c_Table.cl L.Table_has.m G_Table_has (hr.mono (by omega)) L.Table_has.b .nil pass0 (pa_cons (pv 1) pa_nil))))
        (pss_one (ps_expr (pe_callS G_check_sizeX (hr.mono (by omega)) (by rfl) L.check_size.g L.check_size.F.kp L.check_size.b (fun σ => passAt (takes_of rfl rfl rfl rfl) σ) (pa_cons (pe_op op_add (pe_prop (pv 0) L.c_Table.cl L.Table_many.m G_Table_many (hr.mono (by omega)) L.Table_many.b .nil pass0 rfl) pe_int) pa_nil))))
        pss_nil)
      (pss_one (ps_expr (pe_meth (pv 0) L.c_Table.cl L.Table_put.m G_Table_put (hr.mono (by omega)) L.Table_put.b .nil pass0 (pa_cons (pv 1) (pa_cons (pv 2) pa_nil))))))), ?_⟩
    refine ⟨_, rfl, v, k, rfl, hv, fun H1 s1 => ⟨fun hk => ?_, fun hk => (q1 H1 s1).1 hk⟩⟩
    have p1 := p.same s1
    obtain ⟨dx, hx⟩ := p1.tx
    have hv1 := hv.sv (Same.sv s1)
    refine ⟨fun σ' H' => σ' = [some (.ref x), some v, some u] ∧ Same H1 H' ∧ ((valE es k).isSome = true ∨ es.length < 1000), ?_, ?_⟩
    · refine ⟨_, rfl, x, dx, _, rfl, hx, tab_none (by decide +kernel), _, rfl, a, S, n, x, m, es, v, k, rfl, p1, hv1, hk, fun H2 s2 => ⟨_, rfl, ?_⟩⟩
      have s12 := s1.trans s2
      have p2 := p.same s12
      obtain ⟨dx2, hx2⟩ := p2.tx
      cases hval : (valE es k).isSome with
      | true => exact iteF ⟨rfl, s2, .inl rfl⟩
      | false =>
        have hno : valE es k = none := by cases h : valE es k with
          | none => rfl
          | some d => rw [h] at hval; cases hval
        obtain ⟨ents, T, hE, nd', le'⟩ := p2.at_
        have el := hE.len
        refine iteT ?_
        refine ⟨_, rfl, x, dx2, _, rfl, hx2, x, m, ents, rfl, T, _, _, rfl, rfl, _, rfl, fun hs => ⟨rfl, s2, .inr (by omega)⟩, fun hs => (q1 H2 s12).2 hk hno (by omega)⟩
    · rintro σ' H2 ⟨rfl, s2, hl⟩
      have s12 := s1.trans s2
      have p2 := p.same s12
      obtain ⟨dx2, hx2⟩ := p2.tx
      exact ⟨_, rfl, x, dx2, _, rfl, hx2, tab_none (by decide +kernel), _, rfl, _, rfl, a, S, n, x, m, es, v, u, k, d, rfl, p2, hv.sv (Same.sv s12), hk, hu.sv (Same.sv s12), hl, fun H' ev vk mt kp => q2 hk hl H' ((Ev.same s12).trans ev) ((Sv.vk (Same.sv s12)).trans vk) mt ((My.Same.keep s12).trans kp)⟩
/-! ### elements -/
def spGI (P : Program) (w : World) (A : Ads) : Sp := fun vs H Q E => ∃ (a : Sa) (S : St) (n : Nat) (x m : Addr) (es : List (Dv × Dv)) (tv v : V) (k : Dv), vs = [.ref a.s, tv, v] ∧ Mt P w A H a S n x m es ∧ Has A H tv (.obj n) ∧ Has A H v k ∧
  ∀ H', Same H H' → (keyD k = false → Err E A.ScriptError H' "KindError" kMsg) ∧ (keyD k = true → valE es k = none → Err E A.ScriptError H' "KeyError" "no such key") ∧ (∀ d u, keyD k = true → valE es k = some d → Has A H' u d → Q u H')
theorem ok_get_item (L : Lib P K mg A) : FnOk P w K mg base (L2.CX P w) 5 L.get_item.f L.get_item.fd ["store", "x", "i"] (spGI P w A) := by
  have G_kind_of : FnOk P w K mg base CX0 2 L.kind_of.f L.kind_of.fd ["store", "value"] (spKO P w A) := ok_kind_of L
  have G_Store_at : FnOk P w K mg base CX0 1 L.Store_at.f L.Store_at.fd ["self", "ref"] (spAt P w A) := ok_Store_at L
  have G_value_at : FnOk P w K mg base (L2.CX P w) 4 L.value_at.f L.value_at.fd ["table", "key"] (spVA P w A) := ok_value_at L
  refine L.get_item.F.okX (k := 4) sc_get_item (fun vs H Q E h => ?_) (fun cdv A' outer s H vs Q E hr h => ?_)
  · obtain ⟨a, S, n, x, m, es, tv, v, k, rfl, _⟩ := h
    rfl
  · obtain ⟨a, S, n, x, m, es, tv, v, k, rfl, p, ht, hv, q⟩ := h
    obtain ⟨b, db, rfl, hb⟩ := id ht
    obtain ⟨ds0, hs0⟩ := p.sm.s_
    refine ⟨_, (pss_cons (ps_set (i := 3) sc_get_item.nd rfl (.inl rfl) (pe_call G_kind_of (hr.mono (by omega)) (by rfl) L.kind_of.g L.kind_of.F.kp L.kind_of.b .nil pass0 (pa_cons (pv 0) (pa_cons (pv 1) pa_nil))))
      (pss_cons (ps_if (pt_cmpR op_eq (pv 3) pe_str (nomark _))
        (pss_one (ps_ret (pe_callS G_value_at (hr.mono (by omega)) (by rfl) L.value_at.g L.value_at.F.kp L.value_at.b (fun σ => passAt (takes_of rfl rfl rfl rfl) σ) (pa_cons (pe_meth (pv 0) L.c_Store.cl L.Store_at.m G_Store_at (hr.mono (by omega)) L.Store_at.b .nil pass0 (pa_cons (pv 1) pa_nil)) (pa_cons (pv 2) pa_nil)))))
        pss_nil)
      (pss_cons ps_never
      (pss_cons ps_never
      (pss_cons ps_never
      (pss_cons ps_never
      (pss_one ps_never))))))), ?_⟩
    refine ⟨_, rfl, _, rfl, a, S, _, _, rfl, p.sm, ht, p.ok, ?_⟩
    rw [p.kind]
    refine ⟨_, rfl, rfl, _, rfl, ifT (decide_eq_true rfl) ?_⟩
    exact ⟨_, rfl, a.s, ds0, _, rfl, hs0, st_no _ _ _ _ (by decide +kernel) (by decide +kernel) (by decide +kernel) (by decide +kernel), _, rfl, a, S, b, x, n, rfl, p.sm, ⟨b, db, rfl, hb⟩, p.x_, _, rfl, a, S, n, x, m, es, v, k, rfl, p, hv, q⟩
def spStI (P : Program) (w : World) (A : Ads) : Sp := fun vs H Q E => ∃ (a : Sa) (S : St) (n : Nat) (x m : Addr) (es : List (Dv × Dv)) (tv v u : V) (k d : Dv), vs = [.ref a.s, tv, v, u] ∧ Mt P w A H a S n x m es ∧ Has A H tv (.obj n) ∧ Has A H v k ∧ Has A H u d ∧
  (∀ H', Same H H' → (keyD k = false → Err E A.ScriptError H' "KindError" kMsg) ∧ (keyD k = true → valE es k = none → ¬ es.length < 1000 → Err E A.ScriptError H' "SizeError" "too large")) ∧
  (keyD k = true → ((valE es k).isSome = true ∨ es.length < 1000) → ∀ H', Ev a a H H' → Vk A H H' → Mt P w A H' a (S.putT n (putE es k d)) n x m (putE es k d) → Keep m H H' → Q u H')
theorem ok_set_item (L : Lib P K mg A) : FnOk P w K mg base (L2.CX P w) 5 L.set_item.f L.set_item.fd ["store", "x", "i", "value"] (spStI P w A) := by
  have G_kind_of : FnOk P w K mg base CX0 2 L.kind_of.f L.kind_of.fd ["store", "value"] (spKO P w A) := ok_kind_of L
  have G_Store_at : FnOk P w K mg base CX0 1 L.Store_at.f L.Store_at.fd ["self", "ref"] (spAt P w A) := ok_Store_at L
  have G_put_entryX : FnOk P w K mg base (L2.CX P w) 4 L.put_entry.f L.put_entry.fd ["table", "key", "value"] (spPEX P w A) := ok_put_entryX L
  refine L.set_item.F.okX (k := 4) sc_set_item (fun vs H Q E h => ?_) (fun cdv A' outer s H vs Q E hr h => ?_)
  · obtain ⟨a, S, n, x, m, es, tv, v, u, k, d, rfl, _⟩ := h
    rfl
  · obtain ⟨a, S, n, x, m, es, tv, v, u, k, d, rfl, p, ht, hv, hu, q1, q2⟩ := h
    obtain ⟨b, db, rfl, hb⟩ := id ht
    obtain ⟨ds0, hs0⟩ := p.sm.s_
    refine ⟨_, (pss_cons (ps_set (i := 4) sc_set_item.nd rfl (.inl rfl) (pe_call G_kind_of (hr.mono (by omega)) (by rfl) L.kind_of.g L.kind_of.F.kp L.kind_of.b .nil pass0 (pa_cons (pv 0) (pa_cons (pv 1) pa_nil))))
      (pss_cons (ps_if (pt_cmpR op_eq (pv 4) pe_str (nomark _))
        (pss_cons (ps_expr (pe_callS G_put_entryX (hr.mono (by omega)) (by rfl) L.put_entry.g L.put_entry.F.kp L.put_entry.b (fun σ => passAt (takes_of rfl rfl rfl rfl) σ) (pa_cons (pe_meth (pv 0) L.c_Store.cl L.Store_at.m G_Store_at (hr.mono (by omega)) L.Store_at.b .nil pass0 (pa_cons (pv 1) pa_nil)) (pa_cons (pv 2) (pa_cons (pv 3) pa_nil)))))
      (pss_one (ps_ret (pv 3))))
        pss_nil)
      (pss_cons ps_never
      (pss_cons ps_never
      (pss_cons ps_never
      (pss_cons ps_never
      (pss_cons ps_never
      (pss_one (ps_ret (pv 3)))))))))), ?_⟩
    refine ⟨_, rfl, _, rfl, a, S, _, _, rfl, p.sm, ht, p.ok, ?_⟩
    rw [p.kind]
    refine ⟨_, rfl, rfl, _, rfl, ifT (decide_eq_true rfl) ?_⟩
    exact ⟨_, rfl, a.s, ds0, _, rfl, hs0, st_no _ _ _ _ (by decide +kernel) (by decide +kernel) (by decide +kernel) (by decide +kernel), _, rfl, a, S, b, x, n, rfl, p.sm, ⟨b, db, rfl, hb⟩, p.x_, _, rfl, _, rfl, a, S, n, x, m, es, v, u, k, d, rfl, p, hv, hu, q1, fun hk hl H' ev vk mt kp => ⟨_, rfl, q2 hk hl H' ev vk mt kp⟩⟩
end
end My
namespace My
open PySem L2 SX XT XS XE XD XL XZ
open C8 (pss_cut tCut cutS_slice pe_gc)
/-- what a method of maps comes to; n2: a second map es2 -/
inductive Rs where
  | val (d : Dv) (es : List (Dv × Dv))
  | new (ds : List Dv)
  | prs (es : List (Dv × Dv))
  | cop (es : List (Dv × Dv))
  | err (k m : Str)
inductive Cl where
  | has (k : Dv)
  | remove (k : Dv)
  | keys
  | values
  | items
  | get (k d : Dv)
  | merge (n2 : Nat) (es2 : List (Dv × Dv))
  | copy
  | clear
  | length
def Cl.args : Cl → List Dv
  | .has k => [k] | .remove k => [k] | .keys => [] | .values => [] | .items => [] | .get k d => [k, d] | .merge n2 _ => [.obj n2] | .copy => [] | .clear => [] | .length => []
def Cl.nm : Cl → Str
  | .has _ => "has" | .remove _ => "remove" | .keys => "keys" | .values => "values" | .items => "items" | .get _ _ => "get" | .merge _ _ => "merge" | .copy => "copy" | .clear => "clear" | .length => "length"
def Cl.kinds : Cl → List Str
  | .has _ => ["key"] | .remove _ => ["key"] | .keys => [] | .values => [] | .items => [] | .get _ _ => ["key", "any"] | .merge _ _ => ["map"] | .copy => [] | .clear => [] | .length => []
def putIn (es es2 : List (Dv × Dv)) : List (Dv × Dv) := es2.foldl (fun e p => putE e p.1 p.2) es
def fresh (es es2 : List (Dv × Dv)) : List (Dv × Dv) := es2.filter fun p => !(valE es p.1).isSome
def Cl.res (es : List (Dv × Dv)) : Cl → Rs
  | .has k => .val (.bl (valE es k).isSome) es
  | .remove k => match valE es k with
    | some d => .val d (dropE es k)
    | none => .err "KeyError" "no such key"
  | .keys => .new (es.map Prod.fst)
  | .values => .new (es.map Prod.snd)
  | .items => .prs es
  | .get k d => .val ((valE es k).getD d) es
  | .merge _ es2 => if es.length + (fresh es es2).length ≤ 1000 then .val .non (putIn es es2) else .err "SizeError" "too large"
  | .copy => .cop es
  | .clear => .val .non []
  | .length => .val (.int ((es.length : Nat) : Int)) es
theorem putT_same {S : St} {n : Nat} {es : List (Dv × Dv)} (h : S.things[n]? = some (.table es)) : S.putT n es = S := by
  obtain ⟨t, o, l, k⟩ := S
  have h : t[n]? = some (.table es) := h
  show St.mk (t.set n (.table es)) o l k = _
  have : t.set n (.table es) = t := by
    apply List.ext_getElem?
    intro i
    by_cases e : n = i
    · subst e
      rw [List.getElem?_set_self (List.getElem?_eq_some_iff.mp h).1, h]
    · rw [List.getElem?_set_ne e]
  rw [this]
def kinsP (es : List (Dv × Dv)) : List Th := es.map fun p => .parts [p.1, p.2]
def Rs.q (P : Program) (w : World) (A : Ads) (a : Sa) (S : St) (n : Nat) (x : Addr) (H : Hp) (Q : VK) (E : XK) : Rs → Prop
  | .val d es => ∀ H' v, Ev a a H H' → Vk A H H' → (∃ m, Mt P w A H' a (S.putT n es) n x m es) → Has A H' v d → Q v H'
  | .new ds => New P w A a S H (.parts ds) Q
  | .prs es => ∀ H' r a', Ev a a' H H' → SM P w A H' a' { S with things := S.things ++ kinsP es ++ [.parts ((List.range es.length).map fun j => .obj (S.things.length + j))] } → Has A H' (.ref r) (.obj (S.things.length + es.length)) → Q (.ref r) H'
  | .cop es => New P w A a S H (.table es) Q
  | .err k m => ∀ H', Same H H' → Err E A.ScriptError H' k m
theorem hs1 {A : Ads} {H : Hp} {us : List V} {d : Dv} (h : Hs A H us [d]) : ∃ v, us = [v] ∧ Has A H v d := by
  match us, h with
  | [v], h => exact ⟨v, rfl, h.1⟩
theorem hs2 {A : Ads} {H : Hp} {us : List V} {d e : Dv} (h : Hs A H us [d, e]) : ∃ v u, us = [v, u] ∧ Has A H v d ∧ Has A H u e := by
  match us, h with
  | [v, u], h => exact ⟨v, u, rfl, h.1, h.2.1⟩
theorem hs0 {A : Ads} {H : Hp} {us : List V} (h : Hs A H us []) : us = [] := by
  match us, h with
  | [], _ => rfl
/-- what a call asks of its arguments, beside their kinds -/
def Cl.okA (P : Program) (w : World) (A : Ads) (H : Hp) (a : Sa) (S : St) : Cl → Prop
  | .has k => keyD k = true
  | .remove k => keyD k = true
  | .get k _ => keyD k = true
  | .merge n2 es2 => ∃ x2 m2, Mt P w A H a S n2 x2 m2 es2
  | _ => True
def spAct (P : Program) (w : World) (A : Ads) (c : Cl) : Sp := fun vs H Q E => ∃ (a : Sa) (S : St) (n : Nat) (x m : Addr) (es : List (Dv × Dv)) (us : List V), vs = .ref a.s :: .ref x :: us ∧ Mt P w A H a S n x m es ∧ Hs A H us c.args ∧ c.okA P w A H a S ∧ (∀ n2 es2, c = .merge n2 es2 → n2 ≠ n) ∧ S.things.length < 50000 ∧ (c.res es).q P w A a S n x H Q E
section
variable {P : Program} {w : World} {K : PySem.W.Frag} {mg : Str → Option Value} {base : Heap} {A : Ads}
theorem ents_prs {H : Hp} : ∀ {ents : List Ent} {es : List (Dv × Dv)}, Ents A H ents es → Prs A K H (ents.map (·.2.2)) es
  | [], [], _ => trivial
  | e :: ents, p :: es, ⟨⟨k1, k2, q, v, k3, k4, k5⟩, r⟩ => ⟨⟨k1, q, toV p.1, v, k3, .inl (.inl (by rw [← k2]; exact k4)), key_has k1, k5⟩, ents_prs r⟩
  | [], _ :: _, h => h.elim
  | _ :: _, [], h => h.elim
def spMPairs (P : Program) (w : World) (K : PySem.W.Frag) (A : Ads) : Sp := fun vs H Q _ => ∃ (a : Sa) (S : St) (n : Nat) (x m : Addr) (es : List (Dv × Dv)), vs = [.ref x] ∧ Mt P w A H a S n x m es ∧ ∀ H' l us, Same H H' → H l = none → H' l = some (.lst us) → Prs A K H' us es → Q (.ref l) H'
theorem ok_mpairs (L : Lib P K mg A) : FnOk P w K mg base CX0 1 L.Table_pairs.f L.Table_pairs.fd ["self"] (spMPairs P w K A) :=
  (ok_Table_pairs L).imp fun vs H Q E h => by
    obtain ⟨a, S, n, x, m, es, rfl, p, q⟩ := h
    obtain ⟨ents, T, hE, _⟩ := p.at_
    exact ⟨x, m, ents, rfl, T, fun H' l s nl hl => q H' l _ s nl hl (ents_prs (hE.imp (fun _ _ h => h.sv (Same.sv s)) fun _ _ e => s _ _ e))⟩
theorem ok_has (L : Lib P K mg A) (k : Dv) : FnOk P w K mg base (L2.CX P w) 7 L.has.f L.has.fd ["store", "table", "key"] (spAct P w A (.has k)) := by
  have G_Table_has : FnOk P w K mg base CX0 2 L.Table_has.f L.Table_has.fd ["self", "key"] (spMHas P w A) := ok_mhas L
  refine L.has.F.okX (k := 6) sc_has (fun vs H Q E h => ?_) (fun cdv A' outer s H vs Q E hr h => ?_)
  · obtain ⟨a, S, n, x, m, es, us, rfl, _, h, _⟩ := h
    obtain ⟨v, rfl, _⟩ := hs1 h
    rfl
  · obtain ⟨a, S, n, x, m, es, us, rfl, hp, h, hk, _, hb, q⟩ := h
    obtain ⟨v, rfl, hv⟩ := hs1 h
    have q : Rs.q P w A a S n x H Q E (.val (.bl (valE es k).isSome) es) := q
    obtain ⟨dx, hx⟩ := hp.tx
    refine ⟨_, (pss_one (ps_ret (pe_meth (pv 1) L.c_Table.cl L.Table_has.m G_Table_has (hr.mono (by omega)) L.Table_has.b .nil pass0 (pa_cons (pv 2) pa_nil)))), ?_⟩
    refine ⟨_, rfl, x, dx, _, rfl, hx, tab_none (by decide +kernel), _, rfl, a, S, n, x, m, es, v, k, rfl, hp, hv, hk, fun H' s => ?_⟩
    exact q H' _ (Ev.same s) (Sv.vk (Same.sv s)) ⟨m, by rw [putT_same hp.th]; exact hp.same s⟩ rfl
theorem ok_take_out_maps (L : Lib P K mg A) (k : Dv) : FnOk P w K mg base (L2.CX P w) 7 L.take_out_maps.f L.take_out_maps.fd ["store", "table", "key"] (spAct P w A (.remove k)) := by
  have G_value_at : FnOk P w K mg base (L2.CX P w) 4 L.value_at.f L.value_at.fd ["table", "key"] (spVA P w A) := ok_value_at L
  have G_Table_take_out : FnOk P w K mg base CX0 2 L.Table_take_out.f L.Table_take_out.fd ["self", "key"] (spMTake P w A) := ok_mtake L
  refine L.take_out_maps.F.okX (k := 6) sc_take_out_maps (fun vs H Q E h => ?_) (fun cdv A' outer s H vs Q E hr h => ?_)
  · obtain ⟨a, S, n, x, m, es, us, rfl, _, h, _⟩ := h
    obtain ⟨v, rfl, _⟩ := hs1 h
    rfl
  · obtain ⟨a, S, n, x, m, es, us, rfl, hp, h, hk, _, hb, q⟩ := h
    obtain ⟨v, rfl, hv⟩ := hs1 h
    have hk : keyD k = true := hk
    refine ⟨_, (pss_cons (ps_set (i := 3) sc_take_out_maps.nd rfl (.inl rfl) (pe_callS G_value_at (hr.mono (by omega)) (by rfl) L.value_at.g L.value_at.F.kp L.value_at.b (fun σ => passAt (takes_of rfl rfl rfl rfl) σ) (pa_cons (pv 1) (pa_cons (pv 2) pa_nil))))
      (pss_cons (ps_expr (pe_meth (pv 1) L.c_Table.cl L.Table_take_out.m G_Table_take_out (hr.mono (by omega)) L.Table_take_out.b .nil pass0 (pa_cons (pv 2) pa_nil)))
      (pss_one (ps_ret (pv 3))))), ?_⟩
    refine ⟨_, rfl, _, rfl, a, S, n, x, m, es, v, k, rfl, hp, hv, fun H1 s1 => ⟨(fun z => by rw [hk] at z; cases z), fun _ hn => ?_, fun d u _ hd hu => ?_⟩⟩
    · have : (Cl.remove k).res es = .err "KeyError" "no such key" := by show (match valE es k with | some d => _ | none => _) = _; rw [hn]
      rw [this] at q
      exact q H1 s1
    · have : (Cl.remove k).res es = .val d (dropE es k) := by show (match valE es k with | some d => _ | none => _) = _; rw [hd]
      rw [this] at q
      have p1 := hp.same s1
      obtain ⟨dx, hx⟩ := p1.tx
      refine ⟨_, rfl, x, dx, _, rfl, hx, tab_none (by decide +kernel), _, rfl, a, S, n, x, m, es, v, k, rfl, p1, hv.sv (Same.sv s1), hk, by rw [hd]; rfl, fun H2 ev vk mt kp => ?_⟩
      exact ⟨_, rfl, q H2 u ((Ev.same s1).trans ev) ((Sv.vk (Same.sv s1)).trans vk) ⟨m, mt⟩ (vk.v _ _ hu)⟩
theorem ok_get (L : Lib P K mg A) (k d : Dv) : FnOk P w K mg base (L2.CX P w) 7 L.get.f L.get.fd ["store", "table", "key", "other"] (spAct P w A (.get k d)) := by
  have G_Table_has : FnOk P w K mg base CX0 2 L.Table_has.f L.Table_has.fd ["self", "key"] (spMHas P w A) := ok_mhas L
  have G_Table_value_of : FnOk P w K mg base CX0 2 L.Table_value_of.f L.Table_value_of.fd ["self", "key"] (spMVal P w A) := ok_mval L
  refine L.get.F.okX (k := 6) sc_get (fun vs H Q E h => ?_) (fun cdv A' outer s H vs Q E hr h => ?_)
  · obtain ⟨a, S, n, x, m, es, us, rfl, _, h, _⟩ := h
    obtain ⟨v, u, rfl, _⟩ := hs2 h
    rfl
  · obtain ⟨a, S, n, x, m, es, us, rfl, hp, h, hk, _, hb, q⟩ := h
    obtain ⟨v, u, rfl, hv, hu⟩ := hs2 h
    have hk : keyD k = true := hk
    have q : Rs.q P w A a S n x H Q E (.val ((valE es k).getD d) es) := q
    obtain ⟨dx, hx⟩ := hp.tx
    refine ⟨_, (pss_one (ps_ret (pe_ifExp (pt_val (pe_meth (pv 1) L.c_Table.cl L.Table_has.m G_Table_has (hr.mono (by omega)) L.Table_has.b .nil pass0 (pa_cons (pv 2) pa_nil))) (pe_meth (pv 1) L.c_Table.cl L.Table_value_of.m G_Table_value_of (hr.mono (by omega)) L.Table_value_of.b .nil pass0 (pa_cons (pv 2) pa_nil)) (pv 3)))), ?_⟩
    refine ⟨_, rfl, x, dx, _, rfl, hx, tab_none (by decide +kernel), _, rfl, a, S, n, x, m, es, v, k, rfl, hp, hv, hk, fun H1 s1 => ⟨_, rfl, ?_⟩⟩
    have p1 := hp.same s1
    obtain ⟨dx1, hx1⟩ := p1.tx
    cases hval : valE es k with
    | none =>
      rw [hval] at q
      exact iteF ⟨_, rfl, q H1 u (Ev.same s1) (Sv.vk (Same.sv s1)) ⟨m, by rw [putT_same hp.th]; exact p1⟩ (hu.sv (Same.sv s1))⟩
    | some e =>
      rw [hval] at q
      refine iteT ⟨_, rfl, x, dx1, _, rfl, hx1, tab_none (by decide +kernel), _, rfl, a, S, n, x, m, es, v, k, e, rfl, p1, hv.sv (Same.sv s1), hk, hval, fun H2 z s2 hz => ?_⟩
      have s12 := s1.trans s2
      exact q H2 z (Ev.same s12) (Sv.vk (Same.sv s12)) ⟨m, by rw [putT_same hp.th]; exact hp.same s12⟩ hz
theorem ok_length (L : Lib P K mg A) : FnOk P w K mg base (L2.CX P w) 7 L.length_maps.f L.length_maps.fd ["store", "table"] (spAct P w A .length) := by
  have G_Table_many : FnOk P w K mg base CX0 1 L.Table_many.f L.Table_many.fd ["self"] (spTMany P w A) := ok_Table_many L
  refine L.length_maps.F.okX (k := 6) sc_length_maps (fun vs H Q E h => ?_) (fun cdv A' outer s H vs Q E hr h => ?_)
  · obtain ⟨a, S, n, x, m, es, us, rfl, _, h, _⟩ := h
    cases hs0 h
    rfl
  · obtain ⟨a, S, n, x, m, es, us, rfl, hp, h, _, _, hb, q⟩ := h
    cases hs0 h
    have q : Rs.q P w A a S n x H Q E (.val (.int ((es.length : Nat) : Int)) es) := q
    obtain ⟨dx, hx⟩ := hp.tx
    obtain ⟨ents, T, hE, _⟩ := hp.at_
    refine ⟨_, (pss_one (ps_ret (pe_prop (pv 1) L.c_Table.cl L.Table_many.m G_Table_many (hr.mono (by omega)) L.Table_many.b .nil pass0 rfl))), ?_⟩
    refine ⟨_, rfl, x, dx, _, rfl, hx, x, m, ents, rfl, T, ?_⟩
    rw [hE.len]
    exact q H _ Ev.rfl' Vk.rfl' ⟨m, by rw [putT_same hp.th]; exact hp⟩ rfl
end
end My
namespace My
open PySem L2 SX XT XS XE XD XL XZ
open C8 (pss_cut tCut cutS_slice pe_gc)
theorem putAll_id {es : List (Dv × Dv)} : (es.map Prod.fst).Nodup → putAll es = es := by
  induction es using My.snocRec with
  | nil => exact fun _ => rfl
  | snoc ps p ih =>
    intro h
    rw [List.map_append, List.nodup_append] at h
    rw [putAll_snoc, ih h.1, putE_new]
    intro z
    exact h.2.2 _ z p.1 (by simp) rfl
theorem dropE_head {p : Dv × Dv} {es : List (Dv × Dv)} (h : ((p :: es).map Prod.fst).Nodup) : dropE (p :: es) p.1 = es := by
  unfold dropE
  rw [List.map_cons, List.nodup_cons] at h
  rw [List.filter_cons, if_neg (by simp), List.filter_eq_self]
  intro q hq
  refine decide_eq_true fun z => h.1 ?_
  rw [← z]
  exact List.mem_map.mpr ⟨q, hq, rfl⟩
theorem putT_putT {S : St} {n : Nat} {es fs : List (Dv × Dv)} : (S.putT n es).putT n fs = S.putT n fs := by
  unfold St.putT
  simp
theorem sqt_part {K : PySem.W.Frag} {H H' : Hp} {m r : Addr} {u : HO} {xs : List V} (hu : H m = some u) (n1 : ∀ xs, u ≠ .tup xs) (n2 : ∀ ob xs, u ≠ .frz ob (.tup xs)) (k : Keep m H H') (h : SqT K H r xs) : SqT K H' r xs := by
  rcases h with (h | ⟨ob, h⟩) | h
  · exact .inl (.inl (k _ _ h fun z => by rw [z, hu] at h; exact n1 _ (Option.some.inj h)))
  · exact .inl (.inr ⟨ob, k _ _ h fun z => by rw [z, hu] at h; exact n2 _ _ (Option.some.inj h)⟩)
  · exact .inr h
theorem valE_head {p : Dv × Dv} {es : List (Dv × Dv)} : (valE (p :: es) p.1).isSome = true := by
  simp [valE, List.find?_cons]
section
variable {P : Program} {w : World} {K : PySem.W.Frag} {mg : Str → Option Value} {base : Heap} {A : Ads}
theorem Prs.same {H H' : Hp} (s : Same H H') : ∀ {vs : List V} {ps : List (Dv × Dv)}, Prs A K H vs ps → Prs A K H' vs ps
  | [], [], _ => trivial
  | _ :: _, _ :: _, ⟨⟨h1, q, k, u, h2, h3, h4, h5⟩, r⟩ => ⟨⟨h1, q, k, u, h2, sqt_same s h3, h4.sv (Same.sv s), h5.sv (Same.sv s)⟩, Prs.same s r⟩
  | [], _ :: _, h => h.elim
  | _ :: _, [], h => h.elim
theorem ok_copy (L : Lib P K mg A) : FnOk P w K mg base (L2.CX P w) 7 L.copy_maps.f L.copy_maps.fd ["store", "table"] (spAct P w A .copy) := by
  have G_Table_pairs : FnOk P w K mg base CX0 1 L.Table_pairs.f L.Table_pairs.fd ["self"] (spMPairs P w K A) := ok_mpairs L
  have G_make_map : FnOk P w K mg base CX0 4 L.make_map.f L.make_map.fd ["store", "pairs"] (spMMp P w K A) := ok_make_map L
  refine L.copy_maps.F.okX (k := 6) sc_copy_maps (fun vs H Q E h => ?_) (fun cdv A' outer s H vs Q E hr h => ?_)
  · obtain ⟨a, S, n, x, m, es, us, rfl, _, h, _⟩ := h
    cases hs0 h
    rfl
  · obtain ⟨a, S, n, x, m, es, us, rfl, hp, h, _, _, hb, q⟩ := h
    cases hs0 h
    have q : New P w A a S H (.table es) Q := q
    obtain ⟨dx, hx⟩ := hp.tx
    obtain ⟨ents, T, hE, nd', le⟩ := hp.at_
    refine ⟨_, (pss_one (ps_ret (pe_call G_make_map (hr.mono (by omega)) (by rfl) L.make_map.g L.make_map.F.kp L.make_map.b .nil pass0 (pa_cons (pv 0) (pa_cons (pe_meth0 (pv 1) L.c_Table.cl L.Table_pairs.m G_Table_pairs (hr.mono (by omega)) L.Table_pairs.b .nil pass0) pa_nil))))), ?_⟩
    refine ⟨_, rfl, _, rfl, x, dx, _, rfl, hx, tab_none (by decide +kernel), a, S, n, x, m, es, rfl, hp, fun H1 l us s1 nl hl pr => ?_⟩
    refine ⟨a, S, l, us, es, rfl, hp.sm.same s1, SqL.of hl, pr, le, by omega, ?_⟩
    rw [putAll_id nd']
    exact fun H2 r a' ev sm hr => q H2 r a' ((Ev.same s1).trans ev) sm hr
theorem ok_keys (L : Lib P K mg A) : FnOk P w K mg base (L2.CX P w) 7 L.keys_of.f L.keys_of.fd ["store", "table"] (spAct P w A .keys) := by
  have G_Table_pairs : FnOk P w K mg base CX0 1 L.Table_pairs.f L.Table_pairs.fd ["self"] (spMPairs P w K A) := ok_mpairs L
  have G_make_listX : FnOk P w K mg base (L2.CX P w) 5 L.make_list.f L.make_list.fd ["store", "values"] (spMLX P w K A) := ok_make_listX L
  refine L.keys_of.F.okX (k := 6) sc_keys_of (fun vs H Q E h => ?_) (fun cdv A' outer s H vs Q E hr h => ?_)
  · obtain ⟨a, S, n, x, m, es, us, rfl, _, h, _⟩ := h
    cases hs0 h
    rfl
  · obtain ⟨a, S, n, x, m, es, us, rfl, hp, h, _, _, hb, q⟩ := h
    cases hs0 h
    have q : New P w A a S H (.parts (es.map Prod.fst)) Q := q
    obtain ⟨dx, hx⟩ := hp.tx
    obtain ⟨ents, T, hE, nd', le⟩ := hp.at_
    refine ⟨_, (pss_one (ps_ret (pe_callS G_make_listX (hr.mono (by omega)) (by rfl) L.make_list.g L.make_list.F.kp L.make_list.b (fun σ => passAt (takes_of rfl rfl rfl rfl) σ) (pa_cons (pv 0) (pa_cons (pe_lc (own := [("key", 2), ("_", 3)]) (g := gTup K 2 (gCons (gName 2) (gCons (gName 3) gNil))) (tt := tYes) (by rfl) sc_keys_of.nd (pi_list (pe_meth0 (pv 1) L.c_Table.cl L.Table_pairs.m G_Table_pairs (hr.mono (by omega)) L.Table_pairs.b .nil pass0)) (blkOk_by (own := [("key", 2), ("_", 3)]) (N := ["store", "table", "key", "_"]) (sc := defScope (top 84)) (by decide +kernel)) (fun _ _ _ _ _ => (pg_tup (by rfl) (pgs_cons (pg_name (i := 2) sc_keys_of.nd rfl (.inl rfl)) (pgs_cons (pg_name (i := 3) sc_keys_of.nd rfl (.inl rfl)) pgs_nil)))) (fun _ _ _ _ _ => pts_nil) (fun _ _ _ _ _ => (pv 2))) pa_nil))))), ?_⟩
    refine ⟨_, rfl, _, rfl, x, dx, _, rfl, hx, tab_none (by decide +kernel), a, S, n, x, m, es, rfl, hp, fun H1 l us s1 nl hl pr => ?_⟩
    have lus := pr.len
    refine ⟨l, rfl, ⟨_, SqL.of hl⟩, fun D nD => ?_⟩
    refine lc_list (K := K) (a := l) (xs := us) (fun i H' => Same H1 H' ∧ ∃ vs, H' D = some (.lst vs) ∧ Hs A H' vs ((es.take i).map Prod.fst)) ⟨same_upd nD, [], upd_same, trivial⟩ (fun i H' _ h => SqL.of (h.1 _ _ hl)) ?_ ?_
    · rintro i v H2 hv ⟨s2, vs, e1, e2⟩
      obtain ⟨p, qa, k, u, hp', hk, rfl, hq, hk', hu'⟩ := pr.at hv
      have lv := e2.len
      rw [List.length_map, List.length_take] at lv
      refine ⟨qa, _, rfl, sqt_same s2 hq, rfl, _, _, rfl, _, _, rfl, rfl, rfl, _, rfl, vs, e1, Nat.lt_of_le_of_lt (m := 1000) (by omega) (by decide), fun b o eb => ?_, vs ++ [k], upd_same, ?_⟩
      · rw [upd_ne (ne_of_none eb nD)]
        exact s2 _ _ eb
      · have sv : Sv H2 (upd H2 D (.lst (vs ++ [k]))) := fun b u e ne => by
          rw [upd_ne fun z => by rw [z, e1] at e; exact ne _ (Option.some.inj e).symm]
          exact e
        have : (es.take (i + 1)).map Prod.fst = (es.take i).map Prod.fst ++ [p.1] := by
          rw [List.take_add_one, hp', List.map_append]
          rfl
        rw [this]
        exact Hs.app (e2.imp fun _ _ h => h.sv sv) (us := [k]) (es := [p.1]) ⟨(hk'.sv (Same.sv s2)).sv sv, trivial⟩
    · rintro H2 ⟨s2, vs, e1, e2⟩
      rw [lus, List.take_length] at e2
      have s12 := s1.trans s2
      refine ⟨a, S, D, vs, es.map Prod.fst, rfl, hp.sm.same s12, SqL.of e1, e2, by omega, fun _ => ?_, fun h => absurd h (by rw [List.length_map]; omega)⟩
      exact New.same s12 q
theorem ok_values (L : Lib P K mg A) : FnOk P w K mg base (L2.CX P w) 7 L.values_of.f L.values_of.fd ["store", "table"] (spAct P w A .values) := by
  have G_Table_pairs : FnOk P w K mg base CX0 1 L.Table_pairs.f L.Table_pairs.fd ["self"] (spMPairs P w K A) := ok_mpairs L
  have G_make_listX : FnOk P w K mg base (L2.CX P w) 5 L.make_list.f L.make_list.fd ["store", "values"] (spMLX P w K A) := ok_make_listX L
  refine L.values_of.F.okX (k := 6) sc_values_of (fun vs H Q E h => ?_) (fun cdv A' outer s H vs Q E hr h => ?_)
  · obtain ⟨a, S, n, x, m, es, us, rfl, _, h, _⟩ := h
    cases hs0 h
    rfl
  · obtain ⟨a, S, n, x, m, es, us, rfl, hp, h, _, _, hb, q⟩ := h
    cases hs0 h
    have q : New P w A a S H (.parts (es.map Prod.snd)) Q := q
    obtain ⟨dx, hx⟩ := hp.tx
    obtain ⟨ents, T, hE, nd', le⟩ := hp.at_
    refine ⟨_, (pss_one (ps_ret (pe_callS G_make_listX (hr.mono (by omega)) (by rfl) L.make_list.g L.make_list.F.kp L.make_list.b (fun σ => passAt (takes_of rfl rfl rfl rfl) σ) (pa_cons (pv 0) (pa_cons (pe_lc (own := [("_", 2), ("value", 3)]) (g := gTup K 2 (gCons (gName 2) (gCons (gName 3) gNil))) (tt := tYes) (by rfl) sc_values_of.nd (pi_list (pe_meth0 (pv 1) L.c_Table.cl L.Table_pairs.m G_Table_pairs (hr.mono (by omega)) L.Table_pairs.b .nil pass0)) (blkOk_by (own := [("_", 2), ("value", 3)]) (N := ["store", "table", "_", "value"]) (sc := defScope (top 85)) (by decide +kernel)) (fun _ _ _ _ _ => (pg_tup (by rfl) (pgs_cons (pg_name (i := 2) sc_values_of.nd rfl (.inl rfl)) (pgs_cons (pg_name (i := 3) sc_values_of.nd rfl (.inl rfl)) pgs_nil)))) (fun _ _ _ _ _ => pts_nil) (fun _ _ _ _ _ => (pv 3))) pa_nil))))), ?_⟩
    refine ⟨_, rfl, _, rfl, x, dx, _, rfl, hx, tab_none (by decide +kernel), a, S, n, x, m, es, rfl, hp, fun H1 l us s1 nl hl pr => ?_⟩
    have lus := pr.len
    refine ⟨l, rfl, ⟨_, SqL.of hl⟩, fun D nD => ?_⟩
    refine lc_list (K := K) (a := l) (xs := us) (fun i H' => Same H1 H' ∧ ∃ vs, H' D = some (.lst vs) ∧ Hs A H' vs ((es.take i).map Prod.snd)) ⟨same_upd nD, [], upd_same, trivial⟩ (fun i H' _ h => SqL.of (h.1 _ _ hl)) ?_ ?_
    · rintro i v H2 hv ⟨s2, vs, e1, e2⟩
      obtain ⟨p, qa, k, u, hp', hk, rfl, hq, hk', hu'⟩ := pr.at hv
      have lv := e2.len
      rw [List.length_map, List.length_take] at lv
      refine ⟨qa, _, rfl, sqt_same s2 hq, rfl, _, _, rfl, _, _, rfl, rfl, rfl, _, rfl, vs, e1, Nat.lt_of_le_of_lt (m := 1000) (by omega) (by decide), fun b o eb => ?_, vs ++ [u], upd_same, ?_⟩
      · rw [upd_ne (ne_of_none eb nD)]
        exact s2 _ _ eb
      · have sv : Sv H2 (upd H2 D (.lst (vs ++ [u]))) := fun b u e ne => by
          rw [upd_ne fun z => by rw [z, e1] at e; exact ne _ (Option.some.inj e).symm]
          exact e
        have : (es.take (i + 1)).map Prod.snd = (es.take i).map Prod.snd ++ [p.2] := by
          rw [List.take_add_one, hp', List.map_append]
          rfl
        rw [this]
        exact Hs.app (e2.imp fun _ _ h => h.sv sv) (us := [u]) (es := [p.2]) ⟨(hu'.sv (Same.sv s2)).sv sv, trivial⟩
    · rintro H2 ⟨s2, vs, e1, e2⟩
      rw [lus, List.take_length] at e2
      have s12 := s1.trans s2
      refine ⟨a, S, D, vs, es.map Prod.snd, rfl, hp.sm.same s12, SqL.of e1, e2, by omega, fun _ => ?_, fun h => absurd h (by rw [List.length_map]; omega)⟩
      exact New.same s12 q
theorem ok_clear (L : Lib P K mg A) : FnOk P w K mg base (L2.CX P w) 7 L.clear.f L.clear.fd ["store", "table"] (spAct P w A .clear) := by
  have G_Table_pairs : FnOk P w K mg base CX0 1 L.Table_pairs.f L.Table_pairs.fd ["self"] (spMPairs P w K A) := ok_mpairs L
  have G_Table_take_out : FnOk P w K mg base CX0 2 L.Table_take_out.f L.Table_take_out.fd ["self", "key"] (spMTake P w A) := ok_mtake L
  refine L.clear.F.okX (k := 6) sc_clear (fun vs H Q E h => ?_) (fun cdv A' outer s H vs Q E hr h => ?_)
  · obtain ⟨a, S, n, x, m, es, us, rfl, _, h, _⟩ := h
    cases hs0 h
    rfl
  · obtain ⟨a, S, n, x, m, es, us, rfl, hp, h, _, _, hb, q⟩ := h
    cases hs0 h
    have q : Rs.q P w A a S n x H Q E (.val .non []) := q
    obtain ⟨dx, hx⟩ := hp.tx
    obtain ⟨ents, T, hE, nd', le⟩ := hp.at_
    refine ⟨_, (pss_one (ps_for (passes_of rfl) rfl (pi_list (pe_meth0 (pv 1) L.c_Table.cl L.Table_pairs.m G_Table_pairs (hr.mono (by omega)) L.Table_pairs.b .nil pass0)) (pg_tup (by rfl) (pgs_cons (pg_name (i := 2) sc_clear.nd rfl (.inl rfl)) (pgs_cons (pg_name (i := 3) sc_clear.nd rfl (.inl rfl)) pgs_nil)))
        (pss_one (ps_expr (pe_meth (pv 1) L.c_Table.cl L.Table_take_out.m G_Table_take_out (hr.mono (by omega)) L.Table_take_out.b .nil pass0 (pa_cons (pv 2) pa_nil)))))), ?_⟩
    refine ⟨_, rfl, x, dx, _, rfl, hx, tab_none (by decide +kernel), a, S, n, x, m, es, rfl, hp, fun H1 l us s1 nl hl pr => ?_⟩
    have lus := pr.len
    have hpx := hp.same s1
    have lm : l ≠ m := fun z => by
      rw [z] at hl
      rw [s1 _ _ T.tab.at_] at hl
      cases hl
    have hm1 := (s1 _ _ T.tab.at_)
    have sp : ∀ {H' : Hp} {r : Addr} {xs : List V}, Keep m H1 H' → SqT K H1 r xs → SqT K H' r xs := fun k h => sqt_part hm1 (by intro xs z; cases z) (by intro ob xs z; cases z) k h
    refine ⟨l, rfl, ⟨_, SqL.of hl⟩, for_list (K := K) (a := l) (xs := us) (fun i σ H' => ∃ y2 y3 : Option V, σ = [some (.ref a.s), some (.ref x), y2, y3] ∧ Ev a a H1 H' ∧ Vk A H1 H' ∧ Mt P w A H' a (S.putT n (es.drop i)) n x m (es.drop i) ∧ Keep m H1 H') ⟨none, none, rfl, Ev.rfl', Vk.rfl', by rw [List.drop_zero, putT_same hp.th]; exact hpx, fun _ _ e _ => e⟩ (fun i σ H' _ h => by obtain ⟨_, _, _, _, _, _, h⟩ := h; exact SqL.of (h _ _ hl lm)) ?_ ?_⟩
    · rintro i v σ H2 hv ⟨y2, y3, rfl, ev, vk, mt, kp⟩
      obtain ⟨p, qa, k, u, hp', hk, rfl, hq, hk', hu'⟩ := pr.at hv
      have hd : es.drop i = p :: es.drop (i + 1) := by
        obtain ⟨hi, e⟩ := List.getElem?_eq_some_iff.mp hp'
        rw [← e]
        exact List.drop_eq_getElem_cons hi
      have nd2 : ((p :: es.drop (i + 1)).map Prod.fst).Nodup := by
        rw [← hd, List.map_drop]
        exact nd'.sublist (List.drop_sublist _ _)
      obtain ⟨dx2, hx2⟩ := mt.tx
      refine ⟨qa, _, rfl, sp kp hq, rfl, _, _, rfl, _, _, rfl, rfl, ?_⟩
      refine ⟨_, rfl, x, dx2, _, rfl, hx2, tab_none (by decide +kernel), _, rfl, a, _, n, x, m, _, k, p.1, rfl, mt, vk.v _ _ hk', hk, by rw [hd]; exact valE_head, fun H3 ev3 vk3 mt3 kp3 => ?_⟩
      refine ⟨_, _, rfl, ev.trans ev3, vk.trans vk3, ?_, fun b o e ne => kp3 b o (kp b o e ne) ne⟩
      rw [hd, dropE_head nd2, putT_putT] at mt3
      exact mt3
    · rintro σ H2 ⟨y2, y3, rfl, ev, vk, mt, kp⟩
      rw [lus, List.drop_length] at mt
      exact q H2 .non ((Ev.same s1).trans ev) ((Sv.vk (Same.sv s1)).trans vk) ⟨m, mt⟩ rfl
end
end My
namespace My
open PySem L2 SX XT XS XE XD XL XZ
open C8 (pss_cut tCut cutS_slice pe_gc)
theorem putIn_snoc {es ps : List (Dv × Dv)} {p : Dv × Dv} : putIn es (ps ++ [p]) = putE (putIn es ps) p.1 p.2 := by
  unfold putIn
  rw [List.foldl_append]
  rfl
theorem putIn_keys {es ps : List (Dv × Dv)} {k : Dv} : k ∈ (putIn es ps).map Prod.fst ↔ k ∈ es.map Prod.fst ∨ k ∈ ps.map Prod.fst := by
  induction ps using My.snocRec with
  | nil => simp [putIn]
  | snoc ps p ih =>
    rw [putIn_snoc, putE_keys]
    split
    · rename_i c
      rw [ih]
      constructor
      · rintro (h | h)
        · exact .inl h
        · exact .inr (by rw [List.map_append]; exact List.mem_append_left _ h)
      · rintro (h | h)
        · exact .inl h
        · rw [List.map_append] at h
          rcases List.mem_append.mp h with h | h
          · exact .inr h
          · rw [List.mem_singleton.mp h] at ih ⊢
            exact ih.mp c
    · rw [List.mem_append, ih, List.map_append, List.mem_append, or_assoc]
      rfl
theorem fresh_snoc {es ps : List (Dv × Dv)} {p : Dv × Dv} : fresh es (ps ++ [p]) = fresh es ps ++ (if (valE es p.1).isSome then [] else [p]) := by
  unfold fresh
  rw [List.filter_append]
  congr 1
  rw [List.filter_cons]
  cases (valE es p.1).isSome <;> rfl
theorem putIn_len {es ps : List (Dv × Dv)} : (ps.map Prod.fst).Nodup → (putIn es ps).length = es.length + (fresh es ps).length := by
  induction ps using My.snocRec with
  | nil => exact fun _ => rfl
  | snoc ps p ih =>
    intro h
    rw [List.map_append, List.nodup_append] at h
    have hp : p.1 ∉ ps.map Prod.fst := fun z => h.2.2 _ z p.1 (by simp) rfl
    rw [putIn_snoc, fresh_snoc]
    have ih := ih h.1
    cases c : (valE es p.1).isSome with
    | true =>
      rw [putE_len.2 (valE_some.mpr (putIn_keys.mpr (.inl (valE_some.mp c)))), ih]
      simp
    | false =>
      rw [putE_new fun z => ?_]
      · simp
        omega
      · rcases putIn_keys.mp z with z | z
        · rw [valE_some.mpr z] at c
          cases c
        · exact hp z
theorem fresh_take {es ps : List (Dv × Dv)} {i : Nat} : (fresh es (ps.take i)).length ≤ (fresh es ps).length :=
  (List.Sublist.filter _ (List.take_sublist i ps)).length_le
section
variable {P : Program} {w : World} {K : PySem.W.Frag} {mg : Str → Option Value} {base : Heap} {A : Ads}
theorem ok_merge (L : Lib P K mg A) (n2 : Nat) (es2 : List (Dv × Dv)) : FnOk P w K mg base (L2.CX P w) 7 L.merge.f L.merge.fd ["store", "table", "other"] (spAct P w A (.merge n2 es2)) := by
  have G_Table_pairs : FnOk P w K mg base CX0 1 L.Table_pairs.f L.Table_pairs.fd ["self"] (spMPairs P w K A) := ok_mpairs L
  have G_Table_has : FnOk P w K mg base CX0 2 L.Table_has.f L.Table_has.fd ["self", "key"] (spMHas P w A) := ok_mhas L
  have G_Table_put : FnOk P w K mg base CX0 2 L.Table_put.f L.Table_put.fd ["self", "key", "value"] (spMPut P w A) := ok_mput L
  have G_Table_many : FnOk P w K mg base CX0 1 L.Table_many.f L.Table_many.fd ["self"] (spTMany P w A) := ok_Table_many L
  have G_Store_at : FnOk P w K mg base CX0 1 L.Store_at.f L.Store_at.fd ["self", "ref"] (spAt P w A) := ok_Store_at L
  have G_check_sizeX : FnOk P w K mg base (L2.CX P w) 3 L.check_size.f L.check_size.fd ["size"] (spCSX A) := ok_check_sizeX L
  refine L.merge.F.okX (k := 6) sc_merge (fun vs H Q E h => ?_) (fun cdv A' outer s H vs Q E hr h => ?_)
  · obtain ⟨a, S, n, x, m, es, us, rfl, _, h, _⟩ := h
    obtain ⟨v, rfl, _⟩ := hs1 h
    rfl
  · obtain ⟨a, S, n, x, m, es, us, rfl, hp, h, ⟨x2, m2, hp2⟩, hne, hb, q⟩ := h
    obtain ⟨v, rfl, hv⟩ := hs1 h
    have hne : n2 ≠ n := hne _ _ rfl
    have q : Rs.q P w A a S n x H Q E (if es.length + (fresh es es2).length ≤ 1000 then .val .non (putIn es es2) else .err "SizeError" "too large") := q
    obtain ⟨dx, hx⟩ := hp.tx
    obtain ⟨dx2, hx2⟩ := hp2.tx
    obtain ⟨ents, T, hE, nd', le⟩ := hp.at_
    obtain ⟨ents2, T2, hE2, nd2, le2⟩ := hp2.at_
    obtain ⟨b, db, rfl, hb⟩ := id hv
    obtain ⟨ds0, hs0⟩ := hp.sm.s_
    refine ⟨_, (pss_cons (ps_set (i := 3) sc_merge.nd rfl (.inl rfl) (pe_meth0 (pe_meth (pv 0) L.c_Store.cl L.Store_at.m G_Store_at (hr.mono (by omega)) L.Store_at.b .nil pass0 (pa_cons (pv 2) pa_nil)) L.c_Table.cl L.Table_pairs.m G_Table_pairs (hr.mono (by omega)) L.Table_pairs.b .nil pass0))
      (pss_cons (ps_setLc (i := 4) (own := [("key", 5), ("_", 7)]) (g := gTup K 2 (gCons (gName 5) (gCons (gName 7) gNil))) (by rfl) sc_merge.nd rfl rfl (sw_true rfl rfl rfl (by decide +kernel)) (pi_list (pv 3)) (blkOk_by (own := [("key", 5), ("_", 7)]) (N := ["store", "table", "other", "pairs", "new", "key", "value", "_"]) (sc := defScope (top 88)) (by decide +kernel)) (fun _ _ _ _ _ => (pg_tup (by rfl) (pgs_cons (pg_name (i := 5) sc_merge.nd rfl (.inl rfl)) (pgs_cons (pg_name (i := 7) sc_merge.nd rfl (.inl rfl)) pgs_nil)))) (fun _ _ _ _ _ => pts_one (pt_not (pt_val (pe_meth (pv 1) L.c_Table.cl L.Table_has.m G_Table_has (hr.mono (by omega)) L.Table_has.b .nil pass0 (pa_cons (pv 5) pa_nil))))) (fun _ _ _ _ _ => (pv 5)))
      (pss_cons (ps_expr (pe_callS G_check_sizeX (hr.mono (by omega)) (by rfl) L.check_size.g L.check_size.F.kp L.check_size.b (fun σ => passAt (takes_of rfl rfl rfl rfl) σ) (pa_cons (pe_op op_add (pe_prop (pv 1) L.c_Table.cl L.Table_many.m G_Table_many (hr.mono (by omega)) L.Table_many.b .nil pass0 rfl) (pe_callB call_len_seq (by rfl) L.z_len PySem.boot_len (pa_cons (pv 4) pa_nil))) pa_nil)))
      (pss_one (ps_for (passes_of rfl) rfl (pi_list (pv 3)) (pg_tup (by rfl) (pgs_cons (pg_name (i := 5) sc_merge.nd rfl (.inl rfl)) (pgs_cons (pg_name (i := 6) sc_merge.nd rfl (.inl rfl)) pgs_nil)))
        (pss_one (ps_expr (pe_meth (pv 1) L.c_Table.cl L.Table_put.m G_Table_put (hr.mono (by omega)) L.Table_put.b .nil pass0 (pa_cons (pv 5) (pa_cons (pv 6) pa_nil)))))))))), ?_⟩
    refine ⟨_, rfl, a.s, ds0, _, rfl, hs0, st_no _ _ _ _ (by decide +kernel) (by decide +kernel) (by decide +kernel) (by decide +kernel), _, rfl, a, S, b, x2, n2, rfl, hp.sm, ⟨b, db, rfl, hb⟩, hp2.x_, x2, dx2, _, rfl, hx2, tab_none (by decide +kernel), a, S, n2, x2, m2, es2, rfl, hp2, fun H1 l us s1 nl hl pr => ?_⟩
    have lus := pr.len
    have p1 := hp.same s1
    refine ⟨_, rfl, ⟨l, rfl, ⟨_, SqL.of hl⟩, fun D nD => ?_⟩⟩
    refine lc_list (K := K) (a := l) (xs := us) (fun i H' => Same H1 H' ∧ ∃ vs, H' D = some (.lst vs) ∧ vs.length = (fresh es (es2.take i)).length) ⟨same_upd nD, [], upd_same, rfl⟩ (fun i H' _ h => SqL.of (h.1 _ _ hl)) ?_ ?_
    · rintro i v H2 hv ⟨s2, vs, e1, e2⟩
      obtain ⟨p, qa, k, u, hp', hk, rfl, hq, hk', hu'⟩ := pr.at hv
      have p2 := p1.same s2
      obtain ⟨dx3, hx3⟩ := p2.tx
      have ht : es2.take (i + 1) = es2.take i ++ [p] := by
        rw [List.take_add_one, hp']
        rfl
      have lv := fresh_take (es := es) (ps := es2) (i := i)
      have lf : (fresh es es2).length ≤ es2.length := List.length_filter_le _ _
      refine ⟨qa, _, rfl, sqt_same s2 hq, rfl, _, _, rfl, _, _, rfl, rfl, ?_⟩
      refine ⟨rfl, _, rfl, x, dx3, _, rfl, hx3, tab_none (by decide +kernel), _, rfl, a, S, n, x, m, es, k, p.1, rfl, p2, hk'.sv (Same.sv s2), hk, fun H3 s3 => ⟨_, rfl, ?_⟩⟩
      rw [ht, fresh_snoc]
      cases c : (valE es p.1).isSome with
      | true => exact iteF ⟨s2.trans s3, vs, s3 _ _ e1, by rw [e2, if_pos rfl, List.append_nil]⟩
      | false =>
        refine iteT ⟨_, rfl, vs, s3 _ _ e1, Nat.lt_of_le_of_lt (m := 1000) (by omega) (by decide), fun b o eb => ?_, vs ++ [k], upd_same, by simp [e2]⟩
        rw [upd_ne (ne_of_none eb nD)]
        exact s3 _ _ (s2 _ _ eb)
    · rintro H2 ⟨s2, vs, e1, e2⟩
      rw [lus, List.take_length] at e2
      have p2 := p1.same s2
      obtain ⟨dx3, hx3⟩ := p2.tx
      obtain ⟨ents3, T3, hE3, _, _⟩ := p2.at_
      have el3 := hE3.len
      have hx32 := T3.tab.at_
      have sp : ∀ {H' : Hp} {r : Addr} {xs : List V}, Keep m H2 H' → SqT K H2 r xs → SqT K H' r xs := fun k h => sqt_part hx32 (by intro xs z; cases z) (by intro ob xs z; cases z) k h
      have hl2 := s2 _ _ hl
      have lm : l ≠ m := fun z => by
        rw [z] at hl2
        rw [hx32] at hl2
        cases hl2
      refine ⟨_, rfl, x, dx3, _, rfl, hx3, x, m, ents3, rfl, T3, ?_⟩
      have fit : ¬ es.length + (fresh es es2).length ≤ 1000 ∨ es.length + (fresh es es2).length ≤ 1000 := by omega
      refine ⟨_, rfl, D, vs, rfl, .inl (SqL.of e1), _, _, rfl, rfl, _, rfl, fun hs => ?_, fun hs => ?_⟩
      · rw [if_pos (by omega)] at q
        refine ⟨_, rfl, l, rfl, ⟨_, SqL.of hl2⟩, for_list (K := K) (a := l) (xs := us) (fun i σ H' => ∃ y5 y6 y7 : Option V, σ = [some (.ref a.s), some (.ref x), some (.ref b), some (.ref l), some (.ref D), y5, y6, y7] ∧ Ev a a H2 H' ∧ Vk A H2 H' ∧ Mt P w A H' a (S.putT n (putIn es (es2.take i))) n x m (putIn es (es2.take i)) ∧ Keep m H2 H') ⟨none, none, none, rfl, Ev.rfl', Vk.rfl', by show Mt P w A H2 a (S.putT n es) n x m es; rw [putT_same hp.th]; exact p2, fun _ _ e _ => e⟩ (fun i σ H' _ h => by obtain ⟨_, _, _, _, _, _, _, h⟩ := h; exact SqL.of (h _ _ hl2 lm)) ?_ ?_⟩
        · rintro i v σ H3 hv ⟨y5, y6, y7, rfl, ev, vk, mt, kp⟩
          obtain ⟨p, qa, k, u, hp', hk, rfl, hq, hk', hu'⟩ := pr.at hv
          have ht : es2.take (i + 1) = es2.take i ++ [p] := by
            rw [List.take_add_one, hp']
            rfl
          obtain ⟨dx4, hx4⟩ := mt.tx
          have nd3 : ((es2.take i).map Prod.fst).Nodup := by
            rw [List.map_take]
            exact nd2.sublist (List.take_sublist _ _)
          have ln := putIn_len (es := es) nd3
          have lv := fresh_take (es := es) (ps := es2) (i := i + 1)
          rw [ht, fresh_snoc] at lv
          refine ⟨qa, _, rfl, sp kp (sqt_same s2 hq), rfl, _, _, rfl, _, _, rfl, rfl, ?_⟩
          refine ⟨_, rfl, x, dx4, _, rfl, hx4, tab_none (by decide +kernel), _, rfl, _, rfl, a, _, n, x, m, _, k, u, p.1, p.2, rfl, mt, vk.v _ _ (hk'.sv (Same.sv s2)), hk, vk.v _ _ (hu'.sv (Same.sv s2)), ?_, fun H4 ev4 vk4 mt4 kp4 => ?_⟩
          · cases c : (valE es p.1).isSome with
            | true => exact .inl (valE_some.mpr (putIn_keys.mpr (.inl (valE_some.mp c))))
            | false =>
              rw [c] at lv
              rw [if_neg (by decide), List.length_append, List.length_singleton] at lv
              exact .inr (by omega)
          · refine ⟨_, _, _, rfl, ev.trans ev4, vk.trans vk4, ?_, fun b o e ne => kp4 b o (kp b o e ne) ne⟩
            rw [ht, putIn_snoc]
            rw [putT_putT] at mt4
            exact mt4
        · rintro σ H3 ⟨y5, y6, y7, rfl, ev, vk, mt, kp⟩
          rw [lus, List.take_length] at mt
          have s12 := s1.trans s2
          exact q H3 .non ((Ev.same s12).trans ev) ((Sv.vk (Same.sv s12)).trans vk) ⟨m, mt⟩ rfl
      · rw [if_neg (by omega)] at q
        exact q H2 (s1.trans s2)
end
end My
namespace My
open PySem L2 SX XT XS XE XD XL XZ
open C8 (pss_cut tCut cutS_slice pe_gc)
section
variable {P : Program} {w : World} {K : PySem.W.Frag} {mg : Str → Option Value} {base : Heap} {A : Ads}
def spHIT (C : Addr) (n : Str) (K : PySem.W.Frag) : Sp := fun vs H Q _ => ∃ x dx l xs, vs = [.ref x, .ref l] ∧ H x = some (.ins C dx []) ∧ (SqL K H l xs ∨ SqT K H l xs) ∧ ∀ H' m, Keep x H H' → H' x = some (.ins C dx [(n, .ref m)]) → H m = none → H' m = some (.lst xs) → Q .non H'
theorem ok_Parts_initT (L : Lib P K mg A) : FnOk P w K mg base CX0 1 L.Parts_init.f L.Parts_init.fd ["self", "held"] (spHIT A.Parts "held" K) := by
  refine L.Parts_init.F.ok sc_Parts_init (fun vs H Q E h => ?_) (fun cdv A' outer s H vs Q E hr h => ?_)
  · obtain ⟨x, dx, l, xs, rfl, _⟩ := h
    rfl
  · obtain ⟨x, dx, l, xs, rfl, hx, hl, q⟩ := h
    refine ⟨_, (pss_one (ps_fld (pv 0) (pe_callTy call_list_of (by rfl) L.z_list (by decide +kernel) (pa_cons (pv 1) pa_nil)) rfl)), ?_⟩
    refine ⟨_, rfl, l, xs, rfl, hl, fun m hm => ⟨_, rfl, x, A.Parts, dx, [], rfl, (by rw [upd_ne (ne_of_none hx hm)]; exact hx), L.c_Parts.cl, L.n_Parts_held, (by show 0 < 1000; decide), ?_⟩⟩
    have nmx : m ≠ x := (ne_of_none hx hm).symm
    exact q _ m (fun b o e n => by rw [upd_ne n, upd_ne (ne_of_none e hm)]; exact e) upd_same hm (by rw [upd_ne nmx]; exact upd_same)
def PrsT (A : Ads) (H : Hp) (us : List V) (es : List (Dv × Dv)) : Prop := ∃ ents : List Ent, Ents A H ents es ∧ us = ents.map (·.2.2)
theorem Ents.at_ {A : Ads} {H : Hp} : ∀ {ents : List Ent} {es : List (Dv × Dv)} {i : Nat} {v : V}, Ents A H ents es → (ents.map (·.2.2))[i]? = some v → ∃ p q k u, es[i]? = some p ∧ v = .ref q ∧ H q = some (.tup [k, u]) ∧ Has A H k p.1 ∧ Has A H u p.2
  | e :: ents, p :: es, 0, v, ⟨⟨k1, k2, q, u, k3, k4, k5⟩, r⟩, h => by
    rw [List.map_cons, List.getElem?_cons_zero] at h
    cases h
    exact ⟨p, q, _, u, rfl, k3, k4, by rw [k2]; exact key_has k1, k5⟩
  | e :: ents, p :: es, i + 1, v, ⟨_, r⟩, h => by
    rw [List.map_cons, List.getElem?_cons_succ] at h
    have ih := Ents.at_ r h
    exact ih
  | [], _, _, _, _, h => by cases h
  | _ :: _, [], _, _, h, _ => h.elim
def spMPairsT (P : Program) (w : World) (A : Ads) : Sp := fun vs H Q _ => ∃ (a : Sa) (S : St) (n : Nat) (x m : Addr) (es : List (Dv × Dv)), vs = [.ref x] ∧ Mt P w A H a S n x m es ∧ ∀ H' l us, Same H H' → H l = none → H' l = some (.lst us) → PrsT A H' us es → Q (.ref l) H'
theorem ok_mpairsT (L : Lib P K mg A) : FnOk P w K mg base CX0 1 L.Table_pairs.f L.Table_pairs.fd ["self"] (spMPairsT P w A) :=
  (ok_Table_pairs L).imp fun vs H Q E h => by
    obtain ⟨a, S, n, x, m, es, rfl, p, q⟩ := h
    obtain ⟨ents, T, hE, _⟩ := p.at_
    exact ⟨x, m, ents, rfl, T, fun H' l s nl hl => q H' l _ s nl hl ⟨ents, hE.imp (fun _ _ h => h.sv (Same.sv s)) fun _ _ e => s _ _ e, rfl⟩⟩
def ids (n k : Nat) : List Dv := (List.range k).map fun j => .obj (n + j)
theorem ids_len {n k : Nat} : (ids n k).length = k := by simp [ids]
theorem ids_succ {n k : Nat} : ids n (k + 1) = ids n k ++ [.obj (n + k)] := by
  unfold ids
  rw [List.range_succ, List.map_append]
  rfl
def spMPs (P : Program) (w : World) (K : PySem.W.Frag) (A : Ads) : Sp := fun vs H Q E => ∃ (a : Sa) (S : St) (l : Addr) (us : List V) (es : List (Dv × Dv)), vs = [.ref a.s, .ref l] ∧ SM P w A H a S ∧ H l = some (.lst us) ∧ ¬ a.own l ∧ PrsT A H us es ∧ es.length ≤ 1000 ∧ S.things.length < 50000 ∧
  ∀ H' r a', Ev a a' H H' → SM P w A H' a' { S with things := S.things ++ kinsP es ++ [.parts (ids S.things.length es.length)] } → Has A H' (.ref r) (.obj (S.things.length + es.length)) → Q (.ref r) H'
theorem ok_make_pairs (L : Lib P K mg A) : FnOk P w K mg base CX0 4 L.make_pairs.f L.make_pairs.fd ["store", "pairs"] (spMPs P w K A) := by
  have G_Store_make : FnOk P w K mg base CX0 3 L.Store_make.f L.Store_make.fd ["self", "thing"] (spMake P w A) := ok_Store_make L
  have G_Parts_init : FnOk P w K mg base CX0 1 L.Parts_init.f L.Parts_init.fd ["self", "held"] (spHIT A.Parts "held" K) := ok_Parts_initT L
  refine L.make_pairs.F.ok sc_make_pairs (fun vs H Q E h => ?_) (fun cdv A' outer s H vs Q E hr h => ?_)
  · obtain ⟨a, S, l, us, es, rfl, _⟩ := h
    rfl
  · obtain ⟨a, S, l, us, es, rfl, hS, hl, nl, ⟨ents, hE, rfl⟩, le, hb, q⟩ := h
    have el := hE.len
    obtain ⟨ds0, hs0⟩ := hS.s_
    refine ⟨_, (pss_one (ps_ret (pe_meth (pv 0) L.c_Store.cl L.Store_make.m G_Store_make (hr.mono (by omega)) L.Store_make.b .nil pass0 (pa_cons (pe_make L.Parts_init.m G_Parts_init (hr.mono (by omega)) (by rfl) L.c_Parts.g L.Parts_init.b .nil pass0 (pa_cons (pe_lc (own := [("pair", 2)]) (g := gName 2) (tt := tYes) (by rfl) sc_make_pairs.nd (pi_list (pv 1)) (blkOk_by (own := [("pair", 2)]) (N := ["store", "pairs", "pair"]) (sc := defScope (top 78)) (by decide +kernel)) (fun _ _ _ _ _ => (pg_name (i := 2) sc_make_pairs.nd rfl (.inl rfl))) (fun _ _ _ _ _ => pts_nil) (fun _ _ _ _ _ => (pe_meth (pv 0) L.c_Store.cl L.Store_make.m G_Store_make (hr.mono (by omega)) L.Store_make.b .nil pass0 (pa_cons (pe_make L.Parts_init.m G_Parts_init (hr.mono (by omega)) (by rfl) L.c_Parts.g L.Parts_init.b .nil pass0 (pa_cons (pv 2) pa_nil)) pa_nil)))) pa_nil)) pa_nil)))), ?_⟩
    refine ⟨_, rfl, a.s, ds0, _, rfl, hs0, st_no _ _ _ _ (by decide +kernel) (by decide +kernel) (by decide +kernel) (by decide +kernel), ?_⟩
    refine ⟨_, rfl, l, rfl, ⟨_, SqL.of hl⟩, fun D nD => ?_⟩
    have D0 : ¬ a.own D := hS.fresh L nD
    have lD : l ≠ D := fun z => by rw [z, nD] at hl; cases hl
    refine lc_list (K := K) (a := l) (xs := ents.map (·.2.2)) (fun i H' => ∃ a' vs, Ev a a' H H' ∧ SM P w A H' a' { S with things := S.things ++ kinsP (es.take i) } ∧ ¬ a'.own D ∧ H' D = some (.lst vs) ∧ Hs A H' vs (ids S.things.length i)) ⟨a, [], Ev.same (same_upd nD), (by rw [List.take_zero]; show SM P w A _ a { S with things := S.things ++ [] }; rw [List.append_nil]; exact hS.same (same_upd nD)), D0, upd_same, trivial⟩ (fun i H' _ h => by obtain ⟨a', vs, ev, _⟩ := h; exact SqL.of (ev.fr _ _ hl nl)) ?_ ?_
    · rintro i v H2 hv ⟨a1, vs, ev, sm, nD1, e1, e2⟩
      obtain ⟨p, qa, k, u, hp', rfl, hq, hk', hu'⟩ := Ents.at_ hE hv
      have vk := ev.fr.vk L hS
      have li : i < es.length := (List.getElem?_eq_some_iff.mp hp').1
      have lv := e2.len
      rw [ids_len] at lv
      obtain ⟨ds1, hs1⟩ := sm.s_
      have as1 := ev.s
      refine ⟨rfl, ?_⟩
      refine ⟨_, rfl, a.s, ds1, _, rfl, by rw [← as1]; exact hs1, st_no _ _ _ _ (by decide +kernel) (by decide +kernel) (by decide +kernel) (by decide +kernel), _, rfl, ?_⟩
      intro x dy nx ndx ndxx
      have sm0 : Same H2 (upd (upd H2 dy (.own x)) x (.ins A.Parts dy [])) := fun b u e => by
        rw [upd_ne (ne_of_none e nx), upd_ne (ne_of_none e ndx)]
        exact e
      refine ⟨x, dy, qa, [k, u], rfl, upd_same, .inr (.inl (.inl (sm0 _ _ (vk.t _ _ hq)))), fun H3 m k1 hx nm hm => ⟨rfl, ?_⟩⟩
      have s1 := Same.made nx ndx k1
      have nm0 : H2 m = none := sm0.free nm
      obtain ⟨g1, g2, g3⟩ := sm.grow L s1 nx nm0
      have kl : (kinsP (es.take i)).length = i := by
        unfold kinsP
        rw [List.length_map, List.length_take]
        omega
      refine ⟨a1, _, x, m, .parts [p.1, p.2], by rw [as1]; rfl, sm.same s1, ⟨dy, [k, u], hx, hm, (vk.v _ _ hk').sv (Same.sv s1), (vk.v _ _ hu').sv (Same.sv s1), trivial⟩, g1, g2, ?_, fun H4 r k2 hS2 nr hr2 => ?_⟩
      · show (S.things ++ kinsP (es.take i)).length < 100000
        rw [List.length_append, kl]
        omega
      have D3 : H3 D = some (.lst vs) := s1 _ _ e1
      have Dt : D ≠ a1.t := fun z => nD1 (.inr (.inl z))
      have D4 : H4 D = some (.lst vs) := k2 _ _ D3 Dt
      have ev4 := g3 H4 k2
      have nD4 := ev4.nin e1 nD1
      have kD : Keep D H4 (upd H4 D (.lst (vs ++ [.ref r]))) := fun b o e n => by rw [upd_ne n]; exact e
      have svD := Keep.sv kD D4
      have vk4 := (ev4.fr.vk L sm).trans (Sv.vk svD)
      have evD : Ev a { a1 with X := a1.X ++ [x], M := a1.M ++ [m] } H (upd H4 D (.lst (vs ++ [.ref r]))) := by
        have e4 := ev.trans ev4
        exact ⟨fun b o e n => kD _ _ (e4.fr _ _ e n) (fun z => by rw [z, nD] at e; cases e), e4.s, e4.gw⟩
      refine ⟨vs, D4, Nat.lt_of_le_of_lt (m := 1000) (by omega) (by decide), _, vs ++ [.ref r], evD, ?_, nD4, upd_same, ?_⟩
      · have := hS2.keep kD D4 nD4
        have ht : es.take (i + 1) = es.take i ++ [p] := by
          rw [List.take_add_one, hp']
          rfl
        rw [ht]
        have kk : kinsP (es.take i ++ [p]) = kinsP (es.take i) ++ [.parts [p.1, p.2]] := by
          unfold kinsP
          rw [List.map_append]
          rfl
        rw [kk, ← List.append_assoc]
        exact this
      · rw [ids_succ]
        have hr3 := hr2.sv svD
        have : (S.things ++ kinsP (es.take i)).length = S.things.length + i := by rw [List.length_append, kl]
        rw [show ({ S with things := S.things ++ kinsP (es.take i) } : St).things.length = S.things.length + i from this] at hr3
        exact Hs.app (e2.imp fun _ _ h => vk4.v _ _ h) (us := [.ref r]) ⟨hr3, trivial⟩
    · rintro H2 ⟨a1, vs, ev, sm, nD1, e1, e2⟩
      have el2 : (ents.map (·.2.2)).length = es.length := by rw [List.length_map, el]
      rw [el2] at sm e2
      rw [List.take_length] at sm
      obtain ⟨ds1, hs1⟩ := sm.s_
      have as1 := ev.s
      intro x dy nx ndx ndxx
      have sm0 : Same H2 (upd (upd H2 dy (.own x)) x (.ins A.Parts dy [])) := fun b u e => by
        rw [upd_ne (ne_of_none e nx), upd_ne (ne_of_none e ndx)]
        exact e
      refine ⟨x, dy, D, vs, rfl, upd_same, .inl (SqL.of (sm0 _ _ e1)), fun H3 m k1 hx nm hm => ⟨rfl, ?_⟩⟩
      have s1 := Same.made nx ndx k1
      have nm0 : H2 m = none := sm0.free nm
      obtain ⟨g1, g2, g3⟩ := sm.grow L s1 nx nm0
      have kl : (S.things ++ kinsP es).length = S.things.length + es.length := by
        unfold kinsP
        rw [List.length_append, List.length_map]
      refine ⟨a1, _, x, m, .parts (ids S.things.length es.length), by rw [as1]; rfl, sm.same s1, ⟨dy, vs, hx, hm, e2.imp fun _ _ h => h.sv (Same.sv s1)⟩, g1, g2, ?_, fun H4 r k2 hS2 nr hr2 => ?_⟩
      · show (S.things ++ kinsP es).length < 100000
        rw [kl]
        omega
      rw [show ({ S with things := S.things ++ kinsP es } : St).things.length = S.things.length + es.length from kl] at hr2
      exact q H4 r _ (ev.trans (g3 H4 k2)) hS2 hr2
theorem ok_entries (L : Lib P K mg A) : FnOk P w K mg base (L2.CX P w) 7 L.entries.f L.entries.fd ["store", "table"] (spAct P w A .items) := by
  have G_Table_pairs : FnOk P w K mg base CX0 1 L.Table_pairs.f L.Table_pairs.fd ["self"] (spMPairsT P w A) := ok_mpairsT L
  have G_make_pairs : FnOk P w K mg base CX0 4 L.make_pairs.f L.make_pairs.fd ["store", "pairs"] (spMPs P w K A) := ok_make_pairs L
  refine L.entries.F.okX (k := 6) sc_entries (fun vs H Q E h => ?_) (fun cdv A' outer s H vs Q E hr h => ?_)
  · obtain ⟨a, S, n, x, m, es, us, rfl, _, h, _⟩ := h
    cases hs0 h
    rfl
  · obtain ⟨a, S, n, x, m, es, us, rfl, hp, h, _, _, hb, q⟩ := h
    cases hs0 h
    have q : Rs.q P w A a S n x H Q E (.prs es) := q
    obtain ⟨dx, hx⟩ := hp.tx
    obtain ⟨ents, T, hE, nd', le⟩ := hp.at_
    refine ⟨_, (pss_one (ps_ret (pe_call G_make_pairs (hr.mono (by omega)) (by rfl) L.make_pairs.g L.make_pairs.F.kp L.make_pairs.b .nil pass0 (pa_cons (pv 0) (pa_cons (pe_meth0 (pv 1) L.c_Table.cl L.Table_pairs.m G_Table_pairs (hr.mono (by omega)) L.Table_pairs.b .nil pass0) pa_nil))))), ?_⟩
    refine ⟨_, rfl, _, rfl, x, dx, _, rfl, hx, tab_none (by decide +kernel), a, S, n, x, m, es, rfl, hp, fun H1 l us s1 nl hl pr => ?_⟩
    exact ⟨a, S, l, us, es, rfl, hp.sm.same s1, hl, hp.sm.fresh L nl, pr, le, hb, fun H2 r a' ev sm hr => q H2 r a' ((Ev.same s1).trans ev) sm hr⟩
end
end My
namespace My
open PySem L2 SX XT XS XE XD XL XZ
open C8 (pss_cut tCut cutS_slice pe_gc)
theorem Cl.klen : ∀ c : Cl, c.args.length = c.kinds.length ∧ c.args.length ≤ 10
  | .has _ | .remove _ | .keys | .values | .items | .get _ _ | .merge _ _ | .copy | .clear | .length => by simp [Cl.args, Cl.kinds]
theorem Cl.kin : ∀ c : Cl, ∀ k ∈ c.kinds, k ∈ kindsM := fun c => by
  have h1 : ∀ k ∈ (["key"] : List Str), k ∈ kindsM := by decide +kernel
  have h2 : ∀ k ∈ (["key", "any"] : List Str), k ∈ kindsM := by decide +kernel
  have h3 : ∀ k ∈ (["map"] : List Str), k ∈ kindsM := by decide +kernel
  have h0 : ∀ k ∈ ([] : List Str), k ∈ kindsM := by decide +kernel
  cases c <;> first | exact h0 | exact h1 | exact h2 | exact h3
theorem fits_any (S : St) (d : Dv) : fits S d "any" = true := by
  unfold fits
  rw [decide_eq_true (p := ("any" : Str) = "any") rfl, Bool.true_or, Bool.true_or]
theorem fits_key (S : St) {d : Dv} (h : keyD d = true) : fits S d "key" = true := by
  unfold fits
  rw [h, decide_eq_true (p := ("key" : Str) = "key") rfl, Bool.true_and, Bool.or_true]
theorem fits_map (S : St) {d : Dv} (h : kindD S d = ("map" : Str)) : fits S d "map" = true := by
  unfold fits
  rw [h, decide_eq_true (p := ("map" : Str) = "map") rfl, Bool.or_true, Bool.true_or]
theorem Cl.fitsA {P : Program} {w : World} {A : Ads} {H : Hp} {a : Sa} {S : St} : ∀ {c : Cl}, c.okA P w A H a S → My.fitsA S c.args c.kinds = true
  | .has _, h | .remove _, h | .get _ _, h => by
    have h : keyD _ = true := h
    simp [Cl.args, Cl.kinds, My.fitsA, fits_any, fits_key S h]
  | .keys, _ | .values, _ | .items, _ | .copy, _ | .clear, _ | .length, _ => by simp [Cl.args, Cl.kinds, My.fitsA]
  | .merge n2 es2, ⟨x2, m2, h⟩ => by simp [Cl.args, Cl.kinds, My.fitsA, fits_map S h.kind]
theorem Cl.okV_ {P : Program} {w : World} {A : Ads} {H : Hp} {a : Sa} {S : St} : ∀ {c : Cl}, c.okA P w A H a S → (∀ k d, c = .get k d → okV S d) → ∀ d ∈ c.args, okV S d
  | .has k, h, _, d, hd | .remove k, h, _, d, hd => by
    have h : keyD k = true := h
    rw [List.mem_singleton.mp hd]
    cases k <;> first | trivial | cases h
  | .get k e, h, g, d, hd => by
    have h : keyD k = true := h
    rcases List.mem_cons.mp hd with z | z
    · rw [z]
      cases k <;> first | trivial | cases h
    · rw [List.mem_singleton.mp z]
      exact g _ _ rfl
  | .merge _ _, ⟨_, _, h⟩, _, d, hd => by
    rw [List.mem_singleton.mp hd]
    exact h.ok
/-- calls that are refused -/
inductive Bd where
  | has (d : Dv) | remove (d : Dv) | merge
def Bd.cl : Bd → Cl
  | .has d => .has d | .remove d => .remove d | .merge => .merge 0 []
def Bd.nm (b : Bd) : Str := b.cl.nm
def Bd.args : Bd → List Dv
  | .has d => [d] | .remove d => [d] | .merge => [.int 7]
def Bd.ok (S : St) : Bd → Prop
  | .has d => okV S d ∧ fits S d "key" = false | .remove d => okV S d ∧ fits S d "key" = false | .merge => True
theorem Bd.fitsA {S : St} : ∀ {b : Bd}, b.ok S → My.fitsA S b.args b.cl.kinds = false
  | .has _, h | .remove _, h => by simp [Bd.args, Bd.cl, Cl.kinds, My.fitsA, h.2]
  | .merge, _ => by
    have : fits S (.int 7) "map" = false := by unfold fits; rw [show kindD S (.int 7) = ("integer" : Str) from rfl]; decide +kernel
    simp [Bd.args, Bd.cl, Cl.kinds, My.fitsA, this]
theorem Bd.okv {S : St} : ∀ {b : Bd}, b.ok S → ∀ d ∈ b.args, okV S d
  | .has _, h, d, hd | .remove _, h, d, hd => by rw [List.mem_singleton.mp hd]; exact h.1
  | .merge, _, d, hd => by rw [List.mem_singleton.mp hd]; trivial
theorem Bd.klen : ∀ b : Bd, b.args.length = b.cl.kinds.length ∧ b.args.length ≤ 10
  | .has _ | .remove _ | .merge => by simp [Bd.args, Bd.cl, Cl.kinds]
/-- the calls of the law -/
inductive Kl where
  | ok (c : Cl)
  | bad (b : Bd)
def Kl.nm : Kl → Str
  | .ok c => c.nm | .bad b => b.nm
def Kl.args : Kl → List Dv
  | .ok c => c.args | .bad b => b.args
theorem Cl.okA_same {P : Program} {w : World} {A : Ads} {H H2 : Hp} {a : Sa} {S : St} (s : Same H H2) : ∀ {c : Cl}, c.okA P w A H a S → c.okA P w A H2 a S
  | .has _, h | .remove _, h | .get _ _, h | .keys, h | .values, h | .items, h | .copy, h | .clear, h | .length, h => h
  | .merge _ _, ⟨x2, m2, h⟩ => ⟨x2, m2, h.same s⟩
theorem Rs.q_same {P : Program} {w : World} {A : Ads} {a : Sa} {S : St} {n : Nat} {x : Addr} {H H2 : Hp} {Q : VK} {E : XK} (s : Same H H2) : ∀ {r : Rs}, r.q P w A a S n x H Q E → r.q P w A a S n x H2 Q E
  | .val _ _, h => fun H' v ev vk mt hv => h H' v ((Ev.same s).trans ev) ((Sv.vk (Same.sv s)).trans vk) mt hv
  | .new _, h => fun H' r a' ev sm hr => h H' r a' ((Ev.same s).trans ev) sm hr
  | .prs _, h => fun H' r a' ev sm hr => h H' r a' ((Ev.same s).trans ev) sm hr
  | .cop _, h => fun H' r a' ev sm hr => h H' r a' ((Ev.same s).trans ev) sm hr
  | .err _ _, h => fun H' s' => h H' (s.trans s')
theorem Rs.mono {P : Program} {w : World} {A : Ads} {a : Sa} {S : St} {n : Nat} {x : Addr} {H : Hp} {Q Q' : VK} {E E' : XK} (hq : ∀ v H', Q v H' → Q' v H') (he : ∀ c d H', E c d H' → E' c d H') : ∀ {r : Rs}, r.q P w A a S n x H Q E → r.q P w A a S n x H Q' E'
  | .val _ _, h => fun H' v ev vk mt hv => hq _ _ (h H' v ev vk mt hv)
  | .new _, h => fun H' r a' ev sm hr => hq _ _ (h H' r a' ev sm hr)
  | .prs _, h => fun H' r a' ev sm hr => hq _ _ (h H' r a' ev sm hr)
  | .cop _, h => fun H' r a' ev sm hr => hq _ _ (h H' r a' ev sm hr)
  | .err _ _, h => fun H' s => (h H' s).mono he
def Kl.q (P : Program) (w : World) (A : Ads) (a : Sa) (S : St) (n : Nat) (x : Addr) (es : List (Dv × Dv)) (H : Hp) (Q : VK) (E : XK) : Kl → Prop
  | .ok c => (c.okA P w A H a S ∧ (∀ k d, c = .get k d → okV S d) ∧ ∀ n2 es2, c = .merge n2 es2 → n2 ≠ n) ∧ (c.res es).q P w A a S n x H Q E
  | .bad b => b.ok S ∧ ∀ H', Same H H' → Err E A.ScriptError H' "KindError" "wrong argument"
theorem Kl.mono {P : Program} {w : World} {A : Ads} {a : Sa} {S : St} {n : Nat} {x : Addr} {es : List (Dv × Dv)} {H : Hp} {Q Q' : VK} {E E' : XK} (hq : ∀ v H', Q v H' → Q' v H') (he : ∀ c d H', E c d H' → E' c d H') : ∀ {k : Kl}, k.q P w A a S n x es H Q E → k.q P w A a S n x es H Q' E'
  | .ok _, h => ⟨h.1, Rs.mono hq he h.2⟩
  | .bad _, h => ⟨h.1, fun H' s => (h.2 H' s).mono he⟩
section
variable {P : Program} {w : World} {K : PySem.W.Frag} {mg : Str → Option Value} {base : Heap} {A : Ads}
def Cl.fn (L : Lib P K mg A) : Cl → Addr
  | .has _ => L.has.f | .remove _ => L.take_out_maps.f | .keys => L.keys_of.f | .values => L.values_of.f | .items => L.entries.f | .get _ _ => L.get.f
  | .merge _ _ => L.merge.f | .copy => L.copy_maps.f | .clear => L.clear.f | .length => L.length_maps.f
theorem held (L : Lib P K mg A) : ∀ c : Cl, HeldX P w K mg base 7 (c.fn L) (spAct P w A c)
  | .has k => ⟨_, _, ok_has L k, L.has.F.kp, L.has.b⟩
  | .remove k => ⟨_, _, ok_take_out_maps L k, L.take_out_maps.F.kp, L.take_out_maps.b⟩
  | .keys => ⟨_, _, ok_keys L, L.keys_of.F.kp, L.keys_of.b⟩
  | .values => ⟨_, _, ok_values L, L.values_of.F.kp, L.values_of.b⟩
  | .items => ⟨_, _, ok_entries L, L.entries.F.kp, L.entries.b⟩
  | .get k d => ⟨_, _, ok_get L k d, L.get.F.kp, L.get.b⟩
  | .merge n es => ⟨_, _, ok_merge L n es, L.merge.F.kp, L.merge.b⟩
  | .copy => ⟨_, _, ok_copy L, L.copy_maps.F.kp, L.copy_maps.b⟩
  | .clear => ⟨_, _, ok_clear L, L.clear.F.kp, L.clear.b⟩
  | .length => ⟨_, _, ok_length L, L.length_maps.F.kp, L.length_maps.b⟩
/-- the table of the methods of maps -/
structure Fd (w : World) (L : Lib P K mg A) where
  d : Addr
  es : Array DictEntry
  n : Nat
  kd : KDict K w d es n
  gd : mg "MAP_METHODS" = some (.ref d)
  at_ : ∀ c : Cl, ∃ t k, PySem.W.nsIn K d c.nm = some (some (.ref t)) ∧ (∀ H, SqT K H t [.ref (c.fn L), .ref k]) ∧ ∀ H, SqT K H k (c.kinds.map V.str)
def spMF (K : PySem.W.Frag) (d : Addr) : Sp := fun vs H Q _ => ∃ (z : Str) (t : Addr), vs = [.str "map", .str z] ∧ PySem.W.nsIn K d z = some (some (.ref t)) ∧ Q (.ref t) H
theorem ok_method_for (L : Lib P K mg A) (D : Fd w L) : FnOk P w K mg base CX0 1 L.method_for.f L.method_for.fd ["owner", "name"] (spMF K D.d) := by
  refine L.method_for.F.ok sc_method_for (fun vs H Q E h => ?_) (fun cdv A' outer s H vs Q E hr h => ?_)
  · obtain ⟨z, t, rfl, _⟩ := h
    rfl
  · obtain ⟨z, t, rfl, e, q⟩ := h
    refine ⟨_, (pss_cons (ps_if (pt_cmpR op_eq (pv 0) pe_str (nomark _))
        (pss_one ps_never)
        pss_nil)
      (pss_cons (ps_if (pt_cmpR op_eq (pv 0) pe_str (nomark _))
        (pss_one ps_never)
        pss_nil)
      (pss_cons (ps_if (pt_cmpR op_eq (pv 0) pe_str (nomark _))
        (pss_one (ps_ret (pe_kget D.kd (pe_gc (v := .ref D.d) (by rfl) ⟨_, D.gd, rfl⟩) (pv 1))))
        pss_nil)
      (pss_one ps_never)))), ?_⟩
    refine ⟨_, rfl, rfl, _, rfl, ifF (by decide +kernel) ?_⟩
    refine ⟨_, rfl, rfl, _, rfl, ifF (by decide +kernel) ?_⟩
    refine ⟨_, rfl, rfl, _, rfl, ifT (by decide +kernel) ?_⟩
    exact ⟨rfl, _, rfl, _, rfl, z, _, rfl, e, .inr ⟨_, .ref t, rfl, rfl, q⟩⟩
def spCM (P : Program) (w : World) (K : PySem.W.Frag) (A : Ads) : Sp := fun vs H Q E => ∃ (a : Sa) (S : St) (n : Nat) (x m : Addr) (es : List (Dv × Dv)) (v : V) (l : Addr) (us : List V) (k : Kl), vs = [.ref a.s, v, .str k.nm, .ref l] ∧ Mt P w A H a S n x m es ∧ Has A H v (.obj n) ∧ SqL K H l us ∧ Hs A H us k.args ∧ S.things.length < 50000 ∧ k.q P w A a S n x es H Q E
theorem ok_call_method (L : Lib P K mg A) (D : Fd w L) : FnOk P w K mg base (L2.CX P w) 8 L.call_method.f L.call_method.fd ["store", "x", "name", "values"] (spCM P w K A) := by
  have G_kind_of : FnOk P w K mg base CX0 2 L.kind_of.f L.kind_of.fd ["store", "value"] (spKO P w A) := ok_kind_of L
  have G_method_for : FnOk P w K mg base CX0 1 L.method_for.f L.method_for.fd ["owner", "name"] (spMF K D.d) := ok_method_for L D
  have G_check_arguments : FnOk P w K mg base (L2.CX P w) 4 L.check_arguments.f L.check_arguments.fd ["store", "values", "kinds"] (spCAX P w K A) := ok_check_arguments L
  have G_Store_at : FnOk P w K mg base CX0 1 L.Store_at.f L.Store_at.fd ["self", "ref"] (spAt P w A) := ok_Store_at L
  refine L.call_method.F.okX (k := 7) sc_call_method (fun vs H Q E h => ?_) (fun cdv A' outer s H vs Q E hr h => ?_)
  · obtain ⟨a, S, n, x, m, es, v, l, us, k, rfl, _⟩ := h
    rfl
  · obtain ⟨a, S, n, x, m, es, v, l, us, k, rfl, hp, hv, hl, hu, hb, q⟩ := h
    obtain ⟨b, db, rfl, hb0⟩ := id hv
    obtain ⟨ds0, hs0⟩ := hp.sm.s_
    cases k with
    | bad bd =>
      have hS : ∀ f sp, (fun _ : Addr => (none : Option Sp)) f = some sp → HeldX P w K mg base 7 f sp := fun f sp e => by cases e
      obtain ⟨t, kk, e1, ht, hk⟩ := D.at_ bd.cl
      obtain ⟨len1, len2⟩ := bd.klen
      obtain ⟨bok, q⟩ := q
      refine ⟨_, (pss_cons (ps_set (i := 4) sc_call_method.nd rfl (.inl rfl) (pe_call G_method_for (hr.mono (by omega)) (by rfl) L.method_for.g L.method_for.F.kp L.method_for.b .nil pass0 (pa_cons (pe_call G_kind_of (hr.mono (by omega)) (by rfl) L.kind_of.g L.kind_of.F.kp L.kind_of.b .nil pass0 (pa_cons (pv 0) (pa_cons (pv 1) pa_nil))) (pa_cons (pv 2) pa_nil))))
      (pss_cons (ps_if (pt_cmpR op_isN (pv 4) pe_non (nomark _))
        (pss_one ps_never)
        pss_nil)
      (pss_cons (ps_asg (pv 4) (pg_tup (by rfl) (pgs_cons (pg_name (i := 5) sc_call_method.nd rfl (.inl rfl)) (pgs_cons (pg_name (i := 6) sc_call_method.nd rfl (.inl rfl)) pgs_nil))))
      (pss_cons (ps_expr (pe_callS G_check_arguments (hr.mono (by omega)) (by rfl) L.check_arguments.g L.check_arguments.F.kp L.check_arguments.b (fun σ => passAt (takes_of rfl rfl rfl rfl) σ) (pa_cons (pv 0) (pa_cons (pv 3) (pa_cons (pv 6) pa_nil)))))
      (pss_cons (ps_set (i := 7) sc_call_method.nd rfl (.inl rfl) (pe_ifExp (pt_val (pe_callB call_isi (by rfl) L.z_isinstance (by decide +kernel) (pa_cons (pv 1) (pa_cons (pe_bltn (v := .ty "str") (by rfl) L.z_str (by decide +kernel) rfl) pa_nil)))) (pv 1) (pe_meth (pv 0) L.c_Store.cl L.Store_at.m G_Store_at (hr.mono (by omega)) L.Store_at.b .nil pass0 (pa_cons (pv 1) pa_nil))))
      (pss_one (ps_ret (XS.pe_callXS (k := 7) (i := 5) hS (hr.mono (by omega)) rfl (.inl rfl) (fun σ => passAt (takes_of rfl rfl rfl rfl) σ) (pa_cons (pv 0) (pa_cons (pv 7) (StX.pa_star (pv 3) pa_nil))))))))))), ?_⟩
      refine ⟨_, rfl, _, rfl, a, S, _, _, rfl, hp.sm, hv, hp.ok, ?_⟩
      rw [hp.kind]
      refine ⟨_, rfl, bd.nm, t, rfl, e1, ?_⟩
      refine ⟨_, rfl, rfl, _, rfl, ifF (decide_eq_false nofun) ?_⟩
      refine ⟨_, rfl, t, _, rfl, ht H, rfl, ?_⟩
      refine ⟨_, _, rfl, _, _, rfl, rfl, ?_⟩
      refine ⟨_, rfl, _, rfl, _, rfl, a, S, l, kk, us, _, bd.cl.kinds, rfl, hp.sm, hl, hu, bd.okv bok, len2, hk, bd.cl.kin, by omega, fun ne => absurd len1 ne, fun e H1 s1 => ⟨fun f => ?_, fun f => q H1 s1⟩⟩
      rw [show (Kl.bad bd).args = bd.args from rfl, Bd.fitsA bok] at f
      cases f
    | ok c =>
      have hS : ∀ f sp, (fun g => if g = c.fn L then some (spAct P w A c) else none) f = some sp → HeldX P w K mg base 7 f sp := fun f sp e => by
        by_cases h : f = c.fn L
        · simp only [if_pos h] at e
          cases e
          subst h
          exact held L c
        · simp only [if_neg h] at e
          cases e
      obtain ⟨⟨hA, hG, hM⟩, q⟩ := q
      obtain ⟨t, kk, e1, ht, hk⟩ := D.at_ c
      obtain ⟨len1, len2⟩ := c.klen
      refine ⟨_, (pss_cons (ps_set (i := 4) sc_call_method.nd rfl (.inl rfl) (pe_call G_method_for (hr.mono (by omega)) (by rfl) L.method_for.g L.method_for.F.kp L.method_for.b .nil pass0 (pa_cons (pe_call G_kind_of (hr.mono (by omega)) (by rfl) L.kind_of.g L.kind_of.F.kp L.kind_of.b .nil pass0 (pa_cons (pv 0) (pa_cons (pv 1) pa_nil))) (pa_cons (pv 2) pa_nil))))
      (pss_cons (ps_if (pt_cmpR op_isN (pv 4) pe_non (nomark _))
        (pss_one ps_never)
        pss_nil)
      (pss_cons (ps_asg (pv 4) (pg_tup (by rfl) (pgs_cons (pg_name (i := 5) sc_call_method.nd rfl (.inl rfl)) (pgs_cons (pg_name (i := 6) sc_call_method.nd rfl (.inl rfl)) pgs_nil))))
      (pss_cons (ps_expr (pe_callS G_check_arguments (hr.mono (by omega)) (by rfl) L.check_arguments.g L.check_arguments.F.kp L.check_arguments.b (fun σ => passAt (takes_of rfl rfl rfl rfl) σ) (pa_cons (pv 0) (pa_cons (pv 3) (pa_cons (pv 6) pa_nil)))))
      (pss_cons (ps_set (i := 7) sc_call_method.nd rfl (.inl rfl) (pe_ifExp (pt_val (pe_callB call_isi (by rfl) L.z_isinstance (by decide +kernel) (pa_cons (pv 1) (pa_cons (pe_bltn (v := .ty "str") (by rfl) L.z_str (by decide +kernel) rfl) pa_nil)))) (pv 1) (pe_meth (pv 0) L.c_Store.cl L.Store_at.m G_Store_at (hr.mono (by omega)) L.Store_at.b .nil pass0 (pa_cons (pv 1) pa_nil))))
      (pss_one (ps_ret (XS.pe_callXS (k := 7) (i := 5) hS (hr.mono (by omega)) rfl (.inl rfl) (fun σ => passAt (takes_of rfl rfl rfl rfl) σ) (pa_cons (pv 0) (pa_cons (pv 7) (StX.pa_star (pv 3) pa_nil))))))))))), ?_⟩
      refine ⟨_, rfl, _, rfl, a, S, _, _, rfl, hp.sm, hv, hp.ok, ?_⟩
      rw [hp.kind]
      refine ⟨_, rfl, c.nm, t, rfl, e1, ?_⟩
      refine ⟨_, rfl, rfl, _, rfl, ifF (decide_eq_false nofun) ?_⟩
      refine ⟨_, rfl, t, _, rfl, ht H, rfl, ?_⟩
      refine ⟨_, _, rfl, _, _, rfl, rfl, ?_⟩
      refine ⟨_, rfl, _, rfl, _, rfl, a, S, l, kk, us, c.args, c.kinds, rfl, hp.sm, hl, hu, Cl.okV_ hA hG, len2, hk, c.kin, by omega, fun ne => absurd len1 ne, fun e H1 s1 => ⟨fun f => ?_, fun f => by rw [Cl.fitsA hA] at f; cases f⟩⟩
      have hp1 := hp.same s1
      obtain ⟨ds1, hs1⟩ := hp1.sm.s_
      have hv1 : Has A H1 (.ref b) (.obj n) := hv.sv (Same.sv s1)
      refine ⟨_, rfl, .ref b, .ty "str", _, _, _, rfl, .ty _, has_ty L hv1, kit_str L (.obj n), _, rfl, iteF ?_⟩
      refine ⟨_, rfl, a.s, ds1, _, rfl, hs1, st_no _ _ _ _ (by decide +kernel) (by decide +kernel) (by decide +kernel) (by decide +kernel), _, rfl, a, S, b, x, n, rfl, hp1.sm, hv1, hp1.x_, ?_⟩
      exact ⟨c.fn L, spAct P w A c, rfl, if_pos rfl, _, rfl, _, rfl, _, rfl, l, _, rfl, .inr (s1.seq hl), a, S, n, x, m, es, us, by rw [List.append_nil], hp1, hu.imp fun _ _ h => h.sv (Same.sv s1), Cl.okA_same s1 hA, hM, hb, Rs.q_same s1 q⟩
end
end My
namespace My
open PySem L2 SX XT XS XE XD XL XZ
open C8 (pss_cut tCut cutS_slice pe_gc)
theorem putE_set {es : List (Dv × Dv)} {k d : Dv} {i : Nat} {p : Dv × Dv} (nd : (es.map Prod.fst).Nodup) (h : es[i]? = some p) (e : p.1 = k) : putE es k d = es.set i (p.1, d) := by
  subst e
  unfold putE
  have hi := (List.getElem?_eq_some_iff.mp h).1
  rw [if_pos (valE_some.mpr (List.mem_map.mpr ⟨p, List.mem_of_getElem? h, rfl⟩))]
  apply List.ext_getElem?
  intro j
  rw [List.getElem?_map]
  by_cases c : i = j
  · subst c
    rw [List.getElem?_set_self hi, h, Option.map_some, if_pos rfl]
  · rw [List.getElem?_set_ne c]
    cases hj : es[j]? with
    | none => rfl
    | some q =>
      rw [Option.map_some]
      have : q.1 ≠ p.1 := fun z => c (nodup_get (x := p.1) nd (by rw [List.getElem?_map, h]; rfl) (by rw [List.getElem?_map, hj]; exact congrArg some z))
      rw [if_neg this]
theorem putE_app {es : List (Dv × Dv)} {k d : Dv} (h : ∀ p ∈ es, p.1 ≠ k) : putE es k d = es ++ [(k, d)] :=
  putE_new fun z => by
    obtain ⟨p, hp, e⟩ := List.mem_map.mp z
    exact h p hp e
section
variable {P : Program} {w : World} {K : PySem.W.Frag} {mg : Str → Option Value} {base : Heap} {A : Ads}
theorem ss_shape {x y : Str} (hx : PyData.strOk x = true) (hy : PyData.strOk y = true) : SeqAt.shaped (.tuple [.str x, .str y]) = true := by
  simp [SeqAt.shaped, PyData.canLay0, PyData.canLayAll0, PyData.depth, PyData.depthAll, hx, hy]
theorem eqv_str (a b : Str) : PyData.eqv (.str a) (.str b) = decide (a = b) := by
  unfold PyData.eqv
  by_cases h : a = b
  · subst h; simp
  · simp [h]
theorem eqv_ss (a b c d : Str) : PyData.eqv (.tuple [.str a, .str b]) (.tuple [.str c, .str d]) = (decide (a = c) && decide (b = d)) := by
  rw [show PyData.eqv (.tuple [.str a, .str b]) (.tuple [.str c, .str d]) = PyData.eqvAll [.str a, .str b] [.str c, .str d] by unfold PyData.eqv; rfl]
  simp only [PyData.eqvAll, eqv_str, Bool.and_true]
theorem ss_dpT {H : Hp} {p : Addr} {x y : Str} (h : SqT K H p [.str x, .str y]) : Dp K H (.ref p) (.tuple [.str x, .str y]) := .tup h (.cons (.str _) (.cons (.str _) .nil))
def spS2 (A : Ads) : Sp := fun vs H Q _ => ∃ v1 v2 d1 d2, vs = [v1, v2] ∧ Has A H v1 d1 ∧ Has A H v2 d2 ∧ Q (.bl (decide (d1 = d2))) H
theorem ok_law_same (L : Lib P K mg A) : FnOk P w K mg base CX0 2 L.law_same.f L.law_same.fd ["x", "y"] (spS2 A) := by
  refine L.law_same.F.ok sc_law_same (fun vs H Q E h => ?_) (fun cdv A' outer s H vs Q E hr h => ?_)
  · obtain ⟨v1, v2, d1, d2, rfl, _⟩ := h
    rfl
  · obtain ⟨v1, v2, d1, d2, rfl, h1, h2, q⟩ := h
    have qf : d1 ≠ d2 → Q (.bl false) H := fun ne => by rw [decide_eq_false ne] at q; exact q
    refine ⟨_, (pss_cons (ps_if (PW.pt (pw_or (pt_val (pe_callB call_isi (by rfl) L.z_isinstance (by decide +kernel) (pa_cons (pv 0) (pa_cons (pe_bltn (v := .ty "bool") (by rfl) L.z_bool (by decide +kernel) rfl) pa_nil)))) (pw_or1 (pt_val (pe_callB call_isi (by rfl) L.z_isinstance (by decide +kernel) (pa_cons (pv 1) (pa_cons (pe_bltn (v := .ty "bool") (by rfl) L.z_bool (by decide +kernel) rfl) pa_nil)))))))
        (pss_one (ps_ret (pe_and (pe_callB call_isi (by rfl) L.z_isinstance (by decide +kernel) (pa_cons (pv 0) (pa_cons (pe_bltn (v := .ty "bool") (by rfl) L.z_bool (by decide +kernel) rfl) pa_nil))) (pe_and (pe_callB call_isi (by rfl) L.z_isinstance (by decide +kernel) (pa_cons (pv 1) (pa_cons (pe_bltn (v := .ty "bool") (by rfl) L.z_bool (by decide +kernel) rfl) pa_nil))) (pe_one (pe_cmpR (op_eqM L (hr.mono (by omega))) (pv 0) (pv 1) (nomark _)))))))
        pss_nil)
      (pss_cons (ps_if (PW.pt (pw_or (pt_val (pe_callB call_isi (by rfl) L.z_isinstance (by decide +kernel) (pa_cons (pv 0) (pa_cons (pe_gc (v := .ref A.Ref) (by rfl) ⟨_, L.c_Ref.g, rfl⟩) pa_nil)))) (pw_or1 (pt_val (pe_callB call_isi (by rfl) L.z_isinstance (by decide +kernel) (pa_cons (pv 1) (pa_cons (pe_gc (v := .ref A.Ref) (by rfl) ⟨_, L.c_Ref.g, rfl⟩) pa_nil)))))))
        (pss_one (ps_ret (pe_and (pe_callB call_isi (by rfl) L.z_isinstance (by decide +kernel) (pa_cons (pv 0) (pa_cons (pe_gc (v := .ref A.Ref) (by rfl) ⟨_, L.c_Ref.g, rfl⟩) pa_nil))) (pe_and (pe_callB call_isi (by rfl) L.z_isinstance (by decide +kernel) (pa_cons (pv 1) (pa_cons (pe_gc (v := .ref A.Ref) (by rfl) ⟨_, L.c_Ref.g, rfl⟩) pa_nil))) (pe_one (pe_cmpR op_eq (pe_fld (pv 0) rfl) (pe_fld (pv 1) rfl) (nomark _)))))))
        pss_nil)
      (pss_one (ps_ret (pe_cmpR (op_eqM L (hr.mono (by omega))) (pv 0) (pv 1) (nomark _)))))), ?_⟩
    refine ⟨_, rfl, v1, .ty "bool", _, _, _, rfl, .ty _, has_ty L h1, kit_bool L d1, _, rfl, ite_or (fun e1 => ?_) fun e1 => ?_⟩
    · refine ⟨_, rfl, v1, .ty "bool", _, _, _, rfl, .ty _, has_ty L h1, kit_bool L d1, _, rfl, ifT e1 ⟨_, rfl, v2, .ty "bool", _, _, _, rfl, .ty _, has_ty L h2, kit_bool L d2, _, rfl, ite_or (fun e2 => ?_) fun e2 => ?_⟩⟩
      · exact ⟨_, rfl, _, rfl, d1, d2, h1, h2, e1.trans e2.symm, q⟩
      · exact qf fun z => by rw [z, e2] at e1; cases e1
    refine ⟨_, rfl, v2, .ty "bool", _, _, _, rfl, .ty _, has_ty L h2, kit_bool L d2, _, rfl, ite_or (fun e2 => ?_) fun e2 => ?_⟩
    · refine ⟨_, rfl, v1, .ty "bool", _, _, _, rfl, .ty _, has_ty L h1, kit_bool L d1, _, rfl, ifF e1 ?_⟩
      exact qf fun z => by rw [z, e2] at e1; cases e1
    refine ⟨_, rfl, v1, .ref A.Ref, _, .ref A.Ref, _, rfl, .own _, has_ty L h1, kit_R L d1, _, rfl, ite_or (fun r1 => ?_) fun r1 => ?_⟩
    · refine ⟨_, rfl, v1, .ref A.Ref, _, .ref A.Ref, _, rfl, .own _, has_ty L h1, kit_R L d1, _, rfl, ifT r1 ⟨_, rfl, v2, .ref A.Ref, _, .ref A.Ref, _, rfl, .own _, has_ty L h2, kit_R L d2, _, rfl, ite_or (fun r2 => ?_) fun r2 => ?_⟩⟩
      · cases d1 with
        | obj n =>
          cases d2 with
          | obj k =>
            obtain ⟨b1, dx, rfl, g1⟩ := h1
            obtain ⟨b2, dy, rfl, g2⟩ := h2
            refine ⟨_, rfl, b1, A.Ref, dx, _, _, rfl, g1, L.c_Ref.cl, L.n_Ref_number, lk_hit, _, rfl, b2, A.Ref, dy, _, _, rfl, g2, L.c_Ref.cl, L.n_Ref_number, lk_hit, rfl, ?_⟩
            rw [show decide (V.int (n : Nat) = V.int (k : Nat)) = decide (Dv.obj n = Dv.obj k) by simp; omega]
            exact q
          | _ => cases r2
        | _ => cases r1
      · exact qf fun z => by rw [z, r2] at r1; cases r1
    refine ⟨_, rfl, v2, .ref A.Ref, _, .ref A.Ref, _, rfl, .own _, has_ty L h2, kit_R L d2, _, rfl, ite_or (fun r2 => ?_) fun r2 => ?_⟩
    · refine ⟨_, rfl, v1, .ref A.Ref, _, .ref A.Ref, _, rfl, .own _, has_ty L h1, kit_R L d1, _, rfl, ifF r1 ?_⟩
      exact qf fun z => by rw [z, r2] at r1; cases r1
    exact ⟨_, rfl, _, rfl, d1, d2, h1, h2, e1.trans e2.symm, q⟩
/-! ### what is told -/
inductive Tl where
  | told (d : Dv)
  | err (k m : Str)
def TlAt (K : PySem.W.Frag) (A : Ads) (H : Hp) (t : Addr) : Tl → Prop
  | .told d => ∃ v, H t = some (.tup [.str "told", v]) ∧ Has A H v d
  | .err k m => H t = some (.tup [.str k, .str m]) ∧ k ≠ "told" ∧ PyData.strOk k = true ∧ PyData.strOk m = true
theorem TlAt.same {H H' : Hp} (s : Same H H') {t : Addr} : ∀ {r : Tl}, TlAt K A H t r → TlAt K A H' t r
  | .told _, ⟨v, h1, h2⟩ => ⟨v, s _ _ h1, h2.sv (Same.sv s)⟩
  | .err _ _, ⟨h1, h2⟩ => ⟨s _ _ h1, h2⟩
theorem TlAt.imp {H H' : Hp} (k : Vk A H H') {t : Addr} : ∀ {r : Tl}, TlAt K A H t r → TlAt K A H' t r
  | .told _, ⟨v, h1, h2⟩ => ⟨v, k.t _ _ h1, k.v _ _ h2⟩
  | .err _ _, ⟨h1, h2⟩ => ⟨k.t _ _ h1, h2⟩
/-- rows of the law: each a tuple of its own -/
def Prt (A : Ads) (H : Hp) : List V → List (Dv × Dv) → Prop
  | [], [] => True
  | v :: vs, p :: ps => (keyD p.1 = true ∧ ∃ q k u, v = .ref q ∧ H q = some (.tup [k, u]) ∧ Has A H k p.1 ∧ Has A H u p.2) ∧ Prt A H vs ps
  | _, _ => False
theorem Prt.prs {H : Hp} : ∀ {vs : List V} {ps : List (Dv × Dv)}, Prt A H vs ps → Prs A K H vs ps
  | [], [], _ => trivial
  | _ :: _, _ :: _, ⟨⟨h1, q, k, u, h2, h3, h4, h5⟩, r⟩ => ⟨⟨h1, q, k, u, h2, .inl (.inl h3), h4, h5⟩, Prt.prs r⟩
  | [], _ :: _, h => h.elim
  | _ :: _, [], h => h.elim
theorem Prt.imp {H H' : Hp} (v : Vk A H H') : ∀ {vs : List V} {ps : List (Dv × Dv)}, Prt A H vs ps → Prt A H' vs ps
  | [], [], _ => trivial
  | _ :: _, _ :: _, ⟨⟨h1, q, k, u, h2, h3, h4, h5⟩, r⟩ => ⟨⟨h1, q, k, u, h2, v.t _ _ h3, v.v _ _ h4, v.v _ _ h5⟩, Prt.imp v r⟩
  | [], _ :: _, h => h.elim
  | _ :: _, [], h => h.elim
theorem Prt.app {H : Hp} : ∀ {vs us : List V} {ps es : List (Dv × Dv)}, Prt A H vs ps → Prt A H us es → Prt A H (vs ++ us) (ps ++ es)
  | [], _, [], _, _, h => h
  | _ :: _, _, _ :: _, _, ⟨h1, r⟩, h => ⟨h1, Prt.app r h⟩
  | [], _, _ :: _, _, h, _ => h.elim
  | _ :: _, _, [], _, h, _ => h.elim
theorem Prt.set {H : Hp} {v : V} {p : Dv × Dv} : ∀ {vs : List V} {ps : List (Dv × Dv)} {j : Nat}, Prt A H vs ps → (keyD p.1 = true ∧ ∃ q k u, v = .ref q ∧ H q = some (.tup [k, u]) ∧ Has A H k p.1 ∧ Has A H u p.2) → Prt A H (vs.set j v) (ps.set j p)
  | [], [], _, _, _ => trivial
  | _ :: _, _ :: _, 0, ⟨_, r⟩, h => ⟨h, r⟩
  | _ :: _, _ :: _, j + 1, ⟨h1, r⟩, h => ⟨h1, Prt.set r h⟩
  | [], _ :: _, _, h, _ => h.elim
  | _ :: _, [], _, h, _ => h.elim
theorem kit_tuple_tuple {K : PySem.W.Frag} : PySem.W.kitOne K (.type "tuple") (.type "tuple") = some true := kit_ty (show kitB "tuple" "tuple" = some true by decide +kernel)
/-- the first place of a key -/
def Fst1 (es : List (Dv × Dv)) (d : Dv) (i : Int) : Prop := (i = -1 ∧ ∀ p ∈ es, p.1 ≠ d) ∨ ∃ (k : Nat) (p : Dv × Dv), i = ((k : Nat) : Int) ∧ es[k]? = some p ∧ p.1 = d
def spLAt (K : PySem.W.Frag) (A : Ads) : Sp := fun vs H Q _ => ∃ (l : Addr) (us : List V) (es : List (Dv × Dv)) (v : V) (d : Dv), vs = [.ref l, v] ∧ SqL K H l us ∧ Prs A K H us es ∧ Has A H v d ∧ es.length ≤ 2000 ∧ ∀ i, Fst1 es d i → Q (.int i) H
theorem ok_law_at (L : Lib P K mg A) : FnOk P w K mg base CX0 3 L.law_at.f L.law_at.fd ["rows", "key"] (spLAt K A) := by
  have G_law_same : FnOk P w K mg base CX0 2 L.law_same.f L.law_same.fd ["x", "y"] (spS2 A) := ok_law_same L
  refine L.law_at.F.ok sc_law_at (fun vs H Q E h => ?_) (fun cdv A' outer s H vs Q E hr h => ?_)
  · obtain ⟨l, us, es, v, d, rfl, _⟩ := h
    rfl
  · obtain ⟨l, us, es, v, d, rfl, hl, hp, hv, hn, q⟩ := h
    have el := hp.len
    refine ⟨_, (pss_cons (ps_for PassesOwn.never rfl (pi_range1 (by rfl) L.z_range (pa_cons (pe_callB call_len_seq (by rfl) L.z_len PySem.boot_len (pa_cons (pv 0) pa_nil)) pa_nil)) (pg_name (i := 2) sc_law_at.nd rfl (.inl rfl))
        (pss_one (ps_if (pt_val (pe_call G_law_same (hr.mono (by omega)) (by rfl) L.law_same.g L.law_same.F.kp L.law_same.b .nil pass0 (pa_cons (pe_ix ix_tup (pe_ix ix_list (pv 0) (pv 2) (fun _ _ => rfl)) pe_int (fun _ _ => rfl)) (pa_cons (pv 1) pa_nil))))
        (pss_one (ps_ret (pv 2)))
        pss_nil)))
      (pss_one (ps_ret (pe_un un_neg pe_int)))), ?_⟩
    refine ⟨_, rfl, l, us, rfl, .inl hl, _, rfl, by omega, by omega, for_range (n := us.length) (fun i σ H' => ∃ yk : Option V, σ = [some (.ref l), some v, yk] ∧ H' = H ∧ ∀ j p, j < i → es[j]? = some p → p.1 ≠ d) ⟨none, rfl, rfl, fun j p h => absurd h (by omega)⟩ ?_ ?_⟩
    · rintro i σ H' hi ⟨yk, rfl, rfl, hj⟩
      rw [Int.zero_add]
      obtain ⟨z, hz⟩ : ∃ d, us[i]? = some d := ⟨_, List.getElem?_eq_getElem hi⟩
      obtain ⟨p, qa, k, u, hp', hk, rfl, hq, hk', hu'⟩ := hp.at hz
      refine ⟨_, rfl, _, rfl, l, _, _, _, rfl, rfl, hl, atI_nat hz, qa, _, _, _, rfl, rfl, hq, atI_nat (j := 0) rfl, _, rfl, k, v, p.1, d, rfl, hk', hv, _, rfl, ?_⟩
      by_cases c : p.1 = d
      · rw [decide_eq_true c]
        exact iteT ⟨_, rfl, q _ (.inr ⟨i, p, rfl, hp', c⟩)⟩
      · rw [decide_eq_false c]
        refine iteF ⟨_, rfl, rfl, fun j p2 hji hp2 => ?_⟩
        by_cases h : j < i
        · exact hj j p2 h hp2
        · obtain rfl : j = i := by omega
          rw [hp'] at hp2
          cases hp2
          exact c
    · rintro σ H' ⟨yk, rfl, rfl, hj⟩
      refine ⟨_, rfl, q _ (.inl ⟨rfl, fun p hp2 => ?_⟩)⟩
      obtain ⟨j, hj2, e⟩ := List.mem_iff_getElem.mp hp2
      exact hj j p (by omega) (by rw [← e]; exact List.getElem?_eq_getElem hj2)
def spLPut (K : PySem.W.Frag) (A : Ads) : Sp := fun vs H Q _ => ∃ (l : Addr) (us : List V) (es : List (Dv × Dv)) (v u : V) (k d : Dv), vs = [.ref l, v, u] ∧ H l = some (.lst us) ∧ Prt A H us es ∧ (es.map Prod.fst).Nodup ∧ keyD k = true ∧ Has A H v k ∧ Has A H u d ∧ es.length ≤ 1500 ∧ ∀ H' us', Keep l H H' → H' l = some (.lst us') → Prt A H' us' (putE es k d) → Q .non H'
theorem ok_law_put (L : Lib P K mg A) : FnOk P w K mg base CX0 4 L.law_put.f L.law_put.fd ["rows", "key", "value"] (spLPut K A) := by
  have G_law_at : FnOk P w K mg base CX0 3 L.law_at.f L.law_at.fd ["rows", "key"] (spLAt K A) := ok_law_at L
  refine L.law_put.F.ok sc_law_put (fun vs H Q E h => ?_) (fun cdv A' outer s H vs Q E hr h => ?_)
  · obtain ⟨l, us, es, v, u, k, d, rfl, _⟩ := h
    rfl
  · obtain ⟨l, us, es, v, u, k, d, rfl, hl, hp, nd, hk, hv, hu, hn, q⟩ := h
    have el := (hp.prs (K := K)).len
    refine ⟨_, (pss_cons (ps_set (i := 3) sc_law_put.nd rfl (.inl rfl) (pe_call G_law_at (hr.mono (by omega)) (by rfl) L.law_at.g L.law_at.F.kp L.law_at.b .nil pass0 (pa_cons (pv 0) (pa_cons (pv 1) pa_nil))))
      (pss_one (ps_if (pt_cmpR op_lt (pv 3) pe_int (nomark _))
        (pss_one (ps_expr (pe_bm PySem.F.plainAttrs_list PySem.F.slot_list_append PySem.F.type_list_append mt_append (pv 0) (pa_cons (pe_tup (pa_cons (pv 1) (pa_cons (pv 2) pa_nil))) pa_nil))))
        (pss_one (ps_asg (pe_tup (pa_cons (pe_ix ix_tup (pe_ix ix_list (pv 0) (pv 3) (fun _ _ => rfl)) pe_int (fun _ _ => rfl)) (pa_cons (pv 2) pa_nil))) (pg_sub (pv 0) (pv 3) set_list)))))), ?_⟩
    refine ⟨_, rfl, _, rfl, l, us, es, v, k, rfl, SqL.of hl, hp.prs, hv, by omega, fun i hf => ⟨_, rfl, _, _, rfl, rfl, _, rfl, ?_⟩⟩
    rcases hf with ⟨rfl, hf⟩ | ⟨j, p, rfl, hp', e⟩
    · refine ifT (by decide +kernel) ?_
      refine ⟨_, rfl, .inl ⟨rfl, _, SqL.of hl⟩, _, rfl, _, rfl, (by show 2 ≤ sizeLine; decide), fun t nt => ?_⟩
      have tl : l ≠ t := fun z => by rw [z, nt] at hl; cases hl
      have s1 := same_upd (o := .tup [v, u]) nt
      have kp : Keep l H (upd (upd H t (.tup [v, u])) l (.lst (us ++ [.ref t]))) := fun b o e n => by rw [upd_ne n]; exact s1 _ _ e
      refine ⟨l, us, _, rfl, rfl, s1 _ _ hl, Nat.lt_of_le_of_lt (m := 1500) (by omega) (by decide), q _ _ kp upd_same ?_⟩
      rw [putE_app hf]
      refine Prt.app (hp.imp (Sv.vk (Keep.sv kp hl))) ?_
      refine ⟨⟨hk, t, v, u, rfl, (by rw [upd_ne tl.symm]; exact upd_same), hv.sv (Keep.sv kp hl), hu.sv (Keep.sv kp hl)⟩, trivial⟩
    · have lj := (List.getElem?_eq_some_iff.mp hp').1
      obtain ⟨z, hz⟩ : ∃ z, us[j]? = some z := ⟨_, List.getElem?_eq_getElem (by omega)⟩
      obtain ⟨p2, qa, k2, u2, hp2, hk2, rfl, hq, hk3, hu3⟩ := (hp.prs (K := K)).at hz
      rw [hp'] at hp2
      cases hp2
      refine ifF (by simp) ?_
      refine ⟨_, rfl, _, rfl, l, _, _, _, rfl, rfl, SqL.of hl, atI_nat hz, qa, _, _, _, rfl, rfl, hq, atI_nat (j := 0) rfl, _, rfl, (by show 2 ≤ sizeLine; decide), fun t nt => ?_⟩
      have tl : l ≠ t := fun z => by rw [z, nt] at hl; cases hl
      have s1 := same_upd (o := .tup [k2, u]) nt
      have kp : Keep l H (upd (upd H t (.tup [k2, u])) l (.lst (us.set j (.ref t)))) := fun b o e n => by rw [upd_ne n]; exact s1 _ _ e
      refine ⟨_, rfl, _, rfl, l, us, _, j, rfl, rfl, s1 _ _ hl, ixN_nat (by omega), q _ _ kp upd_same ?_⟩
      rw [putE_set nd hp' e]
      exact Prt.set (hp.imp (Sv.vk (Keep.sv kp hl))) ⟨hk2, t, k2, u, rfl, (by rw [upd_ne tl.symm]; exact upd_same), hk3.sv (Keep.sv kp hl), hu.sv (Keep.sv kp hl)⟩
end
end My
namespace My
open PySem L2 SX XT XS XE XD XL XZ
open C8 (pss_cut tCut cutS_slice pe_gc)
section
variable {P : Program} {w : World} {K : PySem.W.Frag} {mg : Str → Option Value} {base : Heap} {A : Ads}
def spLPs (K : PySem.W.Frag) (A : Ads) : Sp := fun vs H Q _ => ∃ (l1 l2 : Addr) (us ws : List V) (es : List (Dv × Dv)), vs = [.ref l1, .ref l2] ∧ H l1 = some (.lst us) ∧ PrsT A H us es ∧ SqL K H l2 ws ∧ Prs A K H ws es ∧ es.length ≤ 2000 ∧ Q (.bl true) H
theorem ok_law_pairs (L : Lib P K mg A) : FnOk P w K mg base CX0 3 L.law_pairs.f L.law_pairs.fd ["told", "rows"] (spLPs K A) := by
  have G_law_same : FnOk P w K mg base CX0 2 L.law_same.f L.law_same.fd ["x", "y"] (spS2 A) := ok_law_same L
  refine L.law_pairs.F.ok sc_law_pairs (fun vs H Q E h => ?_) (fun cdv A' outer s H vs Q E hr h => ?_)
  · obtain ⟨l1, l2, us, ws, es, rfl, _⟩ := h
    rfl
  · obtain ⟨l1, l2, us, ws, es, rfl, h1, ⟨ents, hE, rfl⟩, h2, h3, hn, q⟩ := h
    have e1 := hE.len
    have e3 := h3.len
    have e2 : (ents.map (·.2.2)).length = ws.length := by rw [List.length_map]; omega
    refine ⟨_, (pss_cons (ps_if (PW.pt (pw_or (pt_not (pt_val (pe_callB call_isi (by rfl) L.z_isinstance (by decide +kernel) (pa_cons (pv 0) (pa_cons (pe_bltn (v := .ty "list") (by rfl) L.z_list (by decide +kernel) rfl) pa_nil))))) (pw_or1 (pt_cmpR op_ne (pe_callB call_len_seq (by rfl) L.z_len PySem.boot_len (pa_cons (pv 0) pa_nil)) (pe_callB call_len_seq (by rfl) L.z_len PySem.boot_len (pa_cons (pv 1) pa_nil)) (nomark _)))))
        (pss_one (ps_ret pe_bl))
        pss_nil)
      (pss_cons (ps_for PassesOwn.never rfl (pi_range1 (by rfl) L.z_range (pa_cons (pe_callB call_len_seq (by rfl) L.z_len PySem.boot_len (pa_cons (pv 1) pa_nil)) pa_nil)) (pg_name (i := 2) sc_law_pairs.nd rfl (.inl rfl))
        (pss_cons (ps_if (PW.pt (pw_or (pt_not (pt_val (pe_callB call_isi (by rfl) L.z_isinstance (by decide +kernel) (pa_cons (pe_ix ix_list (pv 0) (pv 2) (fun _ _ => rfl)) (pa_cons (pe_bltn (v := .ty "tuple") (by rfl) L.z_tuple (by decide +kernel) rfl) pa_nil))))) (pw_or1 (pt_not (pt_val (pe_call G_law_same (hr.mono (by omega)) (by rfl) L.law_same.g L.law_same.F.kp L.law_same.b .nil pass0 (pa_cons (pe_ix ix_tup (pe_ix ix_list (pv 0) (pv 2) (fun _ _ => rfl)) pe_int (fun _ _ => rfl)) (pa_cons (pe_ix ix_tup (pe_ix ix_list (pv 1) (pv 2) (fun _ _ => rfl)) pe_int (fun _ _ => rfl)) pa_nil))))))))
        (pss_one (ps_ret pe_bl))
        pss_nil)
      (pss_one (ps_if (pt_not (pt_val (pe_call G_law_same (hr.mono (by omega)) (by rfl) L.law_same.g L.law_same.F.kp L.law_same.b .nil pass0 (pa_cons (pe_ix ix_tup (pe_ix ix_list (pv 0) (pv 2) (fun _ _ => rfl)) pe_int (fun _ _ => rfl)) (pa_cons (pe_ix ix_tup (pe_ix ix_list (pv 1) (pv 2) (fun _ _ => rfl)) pe_int (fun _ _ => rfl)) pa_nil)))))
        (pss_one (ps_ret pe_bl))
        pss_nil))))
      (pss_one (ps_ret pe_bl)))), ?_⟩
    refine ⟨_, rfl, _, .ty "list", _, .type "list", _, rfl, .ty _, .base (.lst h1), kit_list_list, _, rfl, iteF ?_⟩
    refine ⟨_, rfl, l1, _, rfl, .inl (SqL.of h1), _, rfl, l2, ws, rfl, .inl h2, rfl, _, rfl, ifF (by rw [e2]; simp) ?_⟩
    refine ⟨_, rfl, l2, ws, rfl, .inl h2, _, rfl, by omega, by omega, for_range (n := ws.length) (fun i σ H' => ∃ yk : Option V, σ = [some (.ref l1), some (.ref l2), yk] ∧ H' = H) ⟨none, rfl, rfl⟩ ?_ ?_⟩
    · rintro i σ H' hi ⟨yk, rfl, rfl⟩
      rw [Int.zero_add]
      obtain ⟨z, hz⟩ : ∃ d, (ents.map (·.2.2))[i]? = some d := ⟨_, List.getElem?_eq_getElem (by omega)⟩
      obtain ⟨z2, hz2⟩ : ∃ d, ws[i]? = some d := ⟨_, List.getElem?_eq_getElem hi⟩
      obtain ⟨p, qa, k, u, hp', rfl, hq, hk', hu'⟩ := Ents.at_ hE hz
      obtain ⟨p2, qb, k2, u2, hp2, hk2, rfl, hq2, hk3, hu3⟩ := h3.at hz2
      rw [hp'] at hp2
      cases hp2
      refine ⟨_, rfl, _, rfl, l1, _, _, _, rfl, rfl, SqL.of h1, atI_nat hz, _, .ty "tuple", _, .type "tuple", _, rfl, .ty _, .base (.tup hq), kit_tuple_tuple, _, rfl, iteF ?_⟩
      have sq : SqT K H' qa [k, u] := .inl (.inl hq)
      refine ⟨_, rfl, _, rfl, l1, _, _, _, rfl, rfl, SqL.of h1, atI_nat hz, qa, _, _, _, rfl, rfl, sq, atI_nat (j := 0) rfl, _, rfl, _, rfl, l2, _, _, _, rfl, rfl, h2, atI_nat hz2, qb, _, _, _, rfl, rfl, hq2, atI_nat (j := 0) rfl, k, k2, p.1, p.1, rfl, hk', hk3, _, rfl, ?_⟩
      rw [decide_eq_true rfl]
      refine iteF ?_
      refine ⟨_, rfl, _, rfl, l1, _, _, _, rfl, rfl, SqL.of h1, atI_nat hz, qa, _, _, _, rfl, rfl, sq, atI_nat (j := 1) rfl, _, rfl, _, rfl, l2, _, _, _, rfl, rfl, h2, atI_nat hz2, qb, _, _, _, rfl, rfl, hq2, atI_nat (j := 1) rfl, u, u2, p.2, p.2, rfl, hu', hu3, _, rfl, ?_⟩
      rw [decide_eq_true rfl]
      exact iteF ⟨_, rfl, rfl⟩
    · rintro σ H' ⟨yk, rfl, rfl⟩
      exact q
/-- what is told is this value -/
def spLIs (K : PySem.W.Frag) (A : Ads) : Sp := fun vs H Q _ => ∃ (t : Addr) (v : V) (d e : Dv), vs = [.ref t, v] ∧ TlAt K A H t (.told d) ∧ Has A H v e ∧ Q (.bl (decide (d = e))) H
theorem ok_law_is (L : Lib P K mg A) : FnOk P w K mg base CX0 3 L.law_is.f L.law_is.fd ["told", "value"] (spLIs K A) := by
  have G_law_same : FnOk P w K mg base CX0 2 L.law_same.f L.law_same.fd ["x", "y"] (spS2 A) := ok_law_same L
  refine L.law_is.F.ok sc_law_is (fun vs H Q E h => ?_) (fun cdv A' outer s H vs Q E hr h => ?_)
  · obtain ⟨t, v, d, e, rfl, _⟩ := h
    rfl
  · obtain ⟨t, v, d, e, rfl, ⟨u, h1, h2⟩, h3, q⟩ := h
    have h1 : SqT K H t [.str "told", u] := SqT.of h1
    refine ⟨_, (pss_one (ps_ret (pe_and (pe_cmpR op_eq (pe_ix ix_tup (pv 0) pe_int (fun _ _ => rfl)) pe_str (nomark _)) (pe_one (pe_call G_law_same (hr.mono (by omega)) (by rfl) L.law_same.g L.law_same.F.kp L.law_same.b .nil pass0 (pa_cons (pe_ix ix_tup (pv 0) pe_int (fun _ _ => rfl)) (pa_cons (pv 1) pa_nil))))))), ?_⟩
    refine ⟨_, rfl, t, _, _, _, rfl, rfl, h1, atI_nat (j := 0) rfl, rfl, _, rfl, ifT (by simp) ?_⟩
    exact ⟨_, rfl, t, _, _, u, rfl, rfl, h1, atI_nat (j := 1) rfl, _, rfl, u, v, d, e, rfl, h2, h3, q⟩
end
end My
namespace My
open PySem L2 SX XT XS XE XD XL XZ
open C8 (pss_cut tCut cutS_slice pe_gc)
def tQ (Q : VK) : VK := fun v H' => ∀ t, H' t = none → Q (.ref t) (upd H' t (.tup [.str "told", v]))
def tE (A : Ads) (Q : VK) : XK := fun c dd H' => ∃ (d : Addr) (k m : Str) (H0 : Hp), c = .ref A.ScriptError ∧ dd = some d ∧ H0 d = none ∧ H' = upd H0 d (.xd [("message", .str m), ("kind", .str k)]) ∧ ∀ t H2, Same H0 H2 → H2 t = none → Q (.ref t) (upd H2 t (.tup [.str k, .str m]))
section
variable {P : Program} {w : World} {K : PySem.W.Frag} {mg : Str → Option Value} {base : Heap} {A : Ads}
/-- how an error is told -/
def TE (K : PySem.W.Frag) (A : Ads) (H : Hp) (Q : VK) (k m : Str) : Prop := ∀ H' t, Same H H' → TlAt K A H' t (.err k m) → Q (.ref t) H'
theorem TE.err {H H1 : Hp} {Q : VK} {k m : Str} (h : TE K A H Q k m) (s : Same H H1) (hk : k ≠ "told") (k1 : PyData.strOk k = true) (k2 : PyData.strOk m = true) : Err (tE A Q) A.ScriptError H1 k m := fun d hd =>
  ⟨d, k, m, H1, rfl, rfl, hd, rfl, fun t H2 s2 nt => h _ t ((s.trans s2).trans (same_upd nt)) ⟨upd_same, hk, k1, k2⟩⟩
theorem TE.same {H H1 : Hp} {Q : VK} {k m : Str} (s : Same H H1) (h : TE K A H Q k m) : TE K A H1 Q k m := fun H' t s' => h H' t (s.trans s')
theorem knd_ok : ("KindError" : Str) ≠ "told" ∧ PyData.strOk "KindError" = true ∧ PyData.strOk "wrong argument" = true ∧ PyData.strOk kMsg = true := by decide +kernel
theorem siz_ok : ("SizeError" : Str) ≠ "told" ∧ PyData.strOk "SizeError" = true ∧ PyData.strOk "too large" = true := by decide +kernel
theorem kye_ok : ("KeyError" : Str) ≠ "told" ∧ PyData.strOk "KeyError" = true ∧ PyData.strOk "no such key" = true := by decide +kernel
def Rs.t (P : Program) (w : World) (K : PySem.W.Frag) (A : Ads) (a : Sa) (S : St) (n : Nat) (x : Addr) (H : Hp) (Q : VK) : Rs → Prop
  | .val d es => ∀ H' t, Ev a a H H' → Vk A H H' → (∃ m, Mt P w A H' a (S.putT n es) n x m es) → TlAt K A H' t (.told d) → Q (.ref t) H'
  | .new ds => ∀ H' t a', Ev a a' H H' → SM P w A H' a' { S with things := S.things ++ [.parts ds] } → TlAt K A H' t (.told (.obj S.things.length)) → Q (.ref t) H'
  | .prs es => ∀ H' t a', Ev a a' H H' → SM P w A H' a' { S with things := S.things ++ kinsP es ++ [.parts (ids S.things.length es.length)] } → TlAt K A H' t (.told (.obj (S.things.length + es.length))) → Q (.ref t) H'
  | .cop es => ∀ H' t a', Ev a a' H H' → SM P w A H' a' { S with things := S.things ++ [.table es] } → TlAt K A H' t (.told (.obj S.things.length)) → Q (.ref t) H'
  | .err k m => (k ≠ "told" ∧ PyData.strOk k = true ∧ PyData.strOk m = true) ∧ TE K A H Q k m
/-- what the law does -/
inductive Dd where
  | call (k : Kl)
  | get (d : Dv)
  | set (d e : Dv)
def Dd.nm : Dd → Str
  | .call _ => "call" | .get _ => "get" | .set _ _ => "set"
def Dd.name : Dd → Str
  | .call k => k.nm | _ => ""
def Dd.args : Dd → List Dv
  | .call k => k.args | .get d => [d] | .set d e => [d, e]
def Dd.t (P : Program) (w : World) (K : PySem.W.Frag) (A : Ads) (a : Sa) (S : St) (x : Addr) (es : List (Dv × Dv)) (H : Hp) (Q : VK) : Dd → Prop
  | .call (.ok c) => (c.okA P w A H a S ∧ (∀ k d, c = .get k d → okV S d) ∧ ∀ n2 es2, c = .merge n2 es2 → n2 ≠ 1) ∧ (c.res es).t P w K A a S 1 x H Q
  | .call (.bad b) => b.ok S ∧ TE K A H Q "KindError" "wrong argument"
  | .get d => (keyD d = false → TE K A H Q "KindError" kMsg) ∧ (keyD d = true → valE es d = none → TE K A H Q "KeyError" "no such key") ∧ (∀ e H' t, keyD d = true → valE es d = some e → Same H H' → TlAt K A H' t (.told e) → Q (.ref t) H')
  | .set k d => ((keyD k = false → TE K A H Q "KindError" kMsg) ∧ (keyD k = true → valE es k = none → ¬ es.length < 1000 → TE K A H Q "SizeError" "too large")) ∧
    (keyD k = true → ((valE es k).isSome = true ∨ es.length < 1000) → ∀ H' t, Ev a a H H' → Vk A H H' → (∃ m, Mt P w A H' a (S.putT 1 (putE es k d)) 1 x m (putE es k d)) → TlAt K A H' t (.told d) → Q (.ref t) H')
theorem Rs.tq {a : Sa} {S : St} {n : Nat} {x : Addr} {H H1 : Hp} {Q : VK} (s1 : Same H H1) : ∀ {r : Rs}, r.t P w K A a S n x H Q → r.q P w A a S n x H1 (tQ Q) (tE A Q)
  | .val d es, h => fun H' v ev vk ⟨m, mt⟩ hv t nt => h _ t (((Ev.same s1).trans ev).trans (Ev.same (same_upd nt))) (((Sv.vk (Same.sv s1)).trans vk).trans (Sv.vk (Same.sv (same_upd nt)))) ⟨m, mt.same (same_upd nt)⟩ ⟨v, upd_same, hv.sv (Same.sv (same_upd nt))⟩
  | .new ds, h => fun H' r a' ev sm hr t nt => h _ t a' (((Ev.same s1).trans ev).trans (Ev.same (same_upd nt))) (sm.same (same_upd nt)) ⟨.ref r, upd_same, hr.sv (Same.sv (same_upd nt))⟩
  | .prs es, h => fun H' r a' ev sm hr t nt => h _ t a' (((Ev.same s1).trans ev).trans (Ev.same (same_upd nt))) (sm.same (same_upd nt)) ⟨.ref r, upd_same, hr.sv (Same.sv (same_upd nt))⟩
  | .cop es, h => fun H' r a' ev sm hr t nt => h _ t a' (((Ev.same s1).trans ev).trans (Ev.same (same_upd nt))) (sm.same (same_upd nt)) ⟨.ref r, upd_same, hr.sv (Same.sv (same_upd nt))⟩
  | .err k m, h => fun H' s => h.2.err (s1.trans s) h.1.1 h.1.2.1 h.1.2.2
def spLTry (P : Program) (w : World) (K : PySem.W.Frag) (A : Ads) : Sp := fun vs H Q _ => ∃ (a : Sa) (S : St) (x m : Addr) (es : List (Dv × Dv)) (l : Addr) (us : List V) (d : Dd), vs = [.ref a.s, .str d.nm, .str d.name, .ref l] ∧ Mt P w A H a S 1 x m es ∧ SqL K H l us ∧ Hs A H us d.args ∧ S.things.length < 50000 ∧ d.t P w K A a S x es H Q
theorem ok_law_try (L : Lib P K mg A) (D : Fd w L) : FnOk P w K mg base CX0 9 L.law_try.f L.law_try.fd ["store", "deed", "name", "values"] (spLTry P w K A) := by
  have G_call_method : FnOk P w K mg base (L2.CX P w) 8 L.call_method.f L.call_method.fd ["store", "x", "name", "values"] (spCM P w K A) := ok_call_method L D
  have G_get_item : FnOk P w K mg base (L2.CX P w) 5 L.get_item.f L.get_item.fd ["store", "x", "i"] (spGI P w A) := ok_get_item L
  have G_set_item : FnOk P w K mg base (L2.CX P w) 5 L.set_item.f L.set_item.fd ["store", "x", "i", "value"] (spStI P w A) := ok_set_item L
  have G_Ref_init : FnOk P w K mg base CX0 1 L.Ref_init.f L.Ref_init.fd ["self", "number"] (spI1 A.Ref "number") := ok_Ref_init L
  refine L.law_try.F.ok sc_law_try (fun vs H Q E h => ?_) (fun cdv A' outer s H vs Q E hr h => ?_)
  · obtain ⟨a, S, x, m, es, l, us, d, rfl, _⟩ := h
    rfl
  · obtain ⟨a, S, x, m, es, l, us, d, rfl, hp, hl, hu, hb, q⟩ := h
    refine ⟨_, (pss_one (ps_try_as (i := 4) (Wout := fun _ _ _ _ => False) rfl rfl sc_law_try.nd rfl rfl ⟨rfl, by decide, .inl L.x_ScriptError.g⟩ takes0 (fun W pn xe tk _ => pss_cons (ps_if (pt_cmpR op_eq (pv 1) pe_str (nomark _)) (pss_one (ps_ret (by exact (pe_tup (pa_cons pe_str (pa_cons (by exact (pe_callS G_call_method (hr.mono (by omega)) (by rfl) L.call_method.g L.call_method.F.kp L.call_method.b (fun σ => passAt tk σ) (by exact (pa_cons (pv 0) (pa_cons (pe_make L.Ref_init.m G_Ref_init (hr.mono (by omega)) (by rfl) L.c_Ref.g L.Ref_init.b .nil pass0 (pa_cons pe_int pa_nil)) (pa_cons (pv 2) (pa_cons (pv 3) pa_nil))))))) pa_nil)))))) pss_nil) (pss_cons (ps_if (pt_cmpR op_eq (pv 1) pe_str (nomark _)) (pss_one (ps_ret (by exact (pe_tup (pa_cons pe_str (pa_cons (by exact (pe_callS G_get_item (hr.mono (by omega)) (by rfl) L.get_item.g L.get_item.F.kp L.get_item.b (fun σ => passAt tk σ) (by exact (pa_cons (pv 0) (pa_cons (pe_make L.Ref_init.m G_Ref_init (hr.mono (by omega)) (by rfl) L.c_Ref.g L.Ref_init.b .nil pass0 (pa_cons pe_int pa_nil)) (pa_cons (pe_ix (show IxR _ (rIxL K) from by exact ix_list) (pv 3) pe_int (fun _ _ => rfl)) pa_nil)))))) pa_nil)))))) pss_nil) (pss_one (ps_ret (by exact (pe_tup (pa_cons pe_str (pa_cons (by exact (pe_callS G_set_item (hr.mono (by omega)) (by rfl) L.set_item.g L.set_item.F.kp L.set_item.b (fun σ => passAt tk σ) (by exact (pa_cons (pv 0) (pa_cons (pe_make L.Ref_init.m G_Ref_init (hr.mono (by omega)) (by rfl) L.c_Ref.g L.Ref_init.b .nil pass0 (pa_cons pe_int pa_nil)) (pa_cons (pe_ix (show IxR _ (rIxL K) from by exact ix_list) (pv 3) pe_int (fun _ _ => rfl)) (pa_cons (pe_ix (show IxR _ (rIxL K) from by exact ix_list) (pv 3) pe_int (fun _ _ => rfl)) pa_nil))))))) pa_nil)))))))) (fun a oe cls d pn hz hf => pss_one (ps_ret (pe_tup (pa_cons (pe_xf L.x_ScriptError.T.xf L.x_ScriptError.T.n1 hz hf (pv 4)) (pa_cons (pe_xf L.x_ScriptError.T.xf L.x_ScriptError.T.n2 hz hf (pv 4)) pa_nil))))))), ?_⟩
    cases d with
    | call k =>
      refine ⟨_, rfl, rfl, _, rfl, ifT (decide_eq_true rfl) ?_⟩
      refine ⟨_, rfl, ?_⟩
      intro y dy ny ndy nyd
      refine ⟨y, dy, _, rfl, upd_same, fun H1 k1 hR => ⟨rfl, ?_⟩⟩
      have s1 : Same H H1 := Same.made ny ndy k1
      refine ⟨_, rfl, _, rfl, a, S, 1, x, m, es, .ref y, l, us, k, rfl, hp.same s1, ⟨y, dy, rfl, hR⟩, s1.seq hl, hu.imp fun _ _ h => h.sv (Same.sv s1), hb, ?_⟩
      have qq : k.q P w A a S 1 x es H1 (tQ Q) (tE A Q) := by
        cases k with
        | ok c =>
          obtain ⟨⟨h1, h2, h3⟩, q⟩ := q
          exact ⟨⟨Cl.okA_same s1 h1, h2, h3⟩, Rs.tq s1 q⟩
        | bad b => exact ⟨q.1, fun H' s => q.2.err (s1.trans s) knd_ok.1 knd_ok.2.1 knd_ok.2.2.1⟩
      refine Kl.mono (fun v H' h => ⟨by show 2 ≤ sizeLine; decide, fun t ht => h t ht⟩) (fun c dd H' h => ?_) qq
      obtain ⟨d, kk, mm, H0, rfl, rfl, hd, rfl, h⟩ := h
      have xd : upd H0 d (.xd [("message", .str mm), ("kind", .str kk)]) d = some (.xd [("message", .str mm), ("kind", .str kk)]) := upd_same
      refine ⟨true, L.x_ScriptError.T.te, fun _ a0 _ => ?_, fun q => Bool.noConfusion q⟩
      exact ⟨_, rfl, rfl, rfl, d, _, _, rfl, xd, (by rw [lk_skip (by decide +kernel)]; exact lk_hit), _, rfl, rfl, rfl, d, _, _, rfl, xd, lk_hit, (by show 2 ≤ sizeLine; decide), fun t ht => h t _ (same_upd hd) ht⟩
    | get k =>
      obtain ⟨q1, q2, q3⟩ := q
      refine ⟨_, rfl, rfl, _, rfl, ifF (by show decide (V.str "get" = V.str "call") = false; decide +kernel) ?_⟩
      refine ⟨_, rfl, rfl, _, rfl, ifT (decide_eq_true rfl) ?_⟩
      refine ⟨_, rfl, ?_⟩
      intro y dy ny ndy nyd
      refine ⟨y, dy, _, rfl, upd_same, fun H1 k1 hR => ⟨rfl, ?_⟩⟩
      have s1 : Same H H1 := Same.made ny ndy k1
      obtain ⟨v, rfl, hv⟩ := hs1 hu
      refine ⟨_, rfl, l, _, _, v, rfl, rfl, s1.seq hl, atI_nat (j := 0) rfl, a, S, 1, x, m, es, .ref y, v, k, rfl, hp.same s1, ⟨y, dy, rfl, hR⟩, hv.sv (Same.sv s1), fun H2 s2 => ⟨fun hk => Err.mono (fun c dd H' h => by
        obtain ⟨d0, kk, mm, H0, rfl, rfl, hd, rfl, h⟩ := h
        have xd : upd H0 d0 (.xd [("message", .str mm), ("kind", .str kk)]) d0 = some (.xd [("message", .str mm), ("kind", .str kk)]) := upd_same
        refine ⟨true, L.x_ScriptError.T.te, fun _ a0 _ => ?_, fun q => Bool.noConfusion q⟩
        exact ⟨_, rfl, rfl, rfl, d0, _, _, rfl, xd, (by rw [lk_skip (by decide +kernel)]; exact lk_hit), _, rfl, rfl, rfl, d0, _, _, rfl, xd, lk_hit, (by show 2 ≤ sizeLine; decide), fun t ht => h t _ (same_upd hd) ht⟩) ((q1 hk).err (s1.trans s2) knd_ok.1 knd_ok.2.1 knd_ok.2.2.2), fun hk hn => Err.mono (fun c dd H' h => by
        obtain ⟨d0, kk, mm, H0, rfl, rfl, hd, rfl, h⟩ := h
        have xd : upd H0 d0 (.xd [("message", .str mm), ("kind", .str kk)]) d0 = some (.xd [("message", .str mm), ("kind", .str kk)]) := upd_same
        refine ⟨true, L.x_ScriptError.T.te, fun _ a0 _ => ?_, fun q => Bool.noConfusion q⟩
        exact ⟨_, rfl, rfl, rfl, d0, _, _, rfl, xd, (by rw [lk_skip (by decide +kernel)]; exact lk_hit), _, rfl, rfl, rfl, d0, _, _, rfl, xd, lk_hit, (by show 2 ≤ sizeLine; decide), fun t ht => h t _ (same_upd hd) ht⟩) ((q2 hk hn).err (s1.trans s2) kye_ok.1 kye_ok.2.1 kye_ok.2.2), fun e u hk he hu => ?_⟩⟩
      exact ⟨by show 2 ≤ sizeLine; decide, fun t ht => q3 e _ t hk he ((s1.trans s2).trans (same_upd ht)) ⟨u, upd_same, hu.sv (Same.sv (same_upd ht))⟩⟩
    | set k d =>
      obtain ⟨⟨q1, q2⟩, q3⟩ := q
      refine ⟨_, rfl, rfl, _, rfl, ifF (by show decide (V.str "set" = V.str "call") = false; decide +kernel) ?_⟩
      refine ⟨_, rfl, rfl, _, rfl, ifF (by show decide (V.str "set" = V.str "get") = false; decide +kernel) ?_⟩
      refine ⟨_, rfl, ?_⟩
      intro y dy ny ndy nyd
      refine ⟨y, dy, _, rfl, upd_same, fun H1 k1 hR => ⟨rfl, ?_⟩⟩
      have s1 : Same H H1 := Same.made ny ndy k1
      obtain ⟨v, u, rfl, hv, hu⟩ := hs2 hu
      refine ⟨_, rfl, l, _, _, v, rfl, rfl, s1.seq hl, atI_nat (j := 0) rfl, _, rfl, l, _, _, u, rfl, rfl, s1.seq hl, atI_nat (j := 1) rfl, a, S, 1, x, m, es, .ref y, v, u, k, d, rfl, hp.same s1, ⟨y, dy, rfl, hR⟩, hv.sv (Same.sv s1), hu.sv (Same.sv s1), fun H2 s2 => ⟨fun hk => Err.mono (fun c dd H' h => by
        obtain ⟨d0, kk, mm, H0, rfl, rfl, hd, rfl, h⟩ := h
        have xd : upd H0 d0 (.xd [("message", .str mm), ("kind", .str kk)]) d0 = some (.xd [("message", .str mm), ("kind", .str kk)]) := upd_same
        refine ⟨true, L.x_ScriptError.T.te, fun _ a0 _ => ?_, fun q => Bool.noConfusion q⟩
        exact ⟨_, rfl, rfl, rfl, d0, _, _, rfl, xd, (by rw [lk_skip (by decide +kernel)]; exact lk_hit), _, rfl, rfl, rfl, d0, _, _, rfl, xd, lk_hit, (by show 2 ≤ sizeLine; decide), fun t ht => h t _ (same_upd hd) ht⟩) ((q1 hk).err (s1.trans s2) knd_ok.1 knd_ok.2.1 knd_ok.2.2.2), fun hk hn hl => Err.mono (fun c dd H' h => by
        obtain ⟨d0, kk, mm, H0, rfl, rfl, hd, rfl, h⟩ := h
        have xd : upd H0 d0 (.xd [("message", .str mm), ("kind", .str kk)]) d0 = some (.xd [("message", .str mm), ("kind", .str kk)]) := upd_same
        refine ⟨true, L.x_ScriptError.T.te, fun _ a0 _ => ?_, fun q => Bool.noConfusion q⟩
        exact ⟨_, rfl, rfl, rfl, d0, _, _, rfl, xd, (by rw [lk_skip (by decide +kernel)]; exact lk_hit), _, rfl, rfl, rfl, d0, _, _, rfl, xd, lk_hit, (by show 2 ≤ sizeLine; decide), fun t ht => h t _ (same_upd hd) ht⟩) ((q2 hk hn hl).err (s1.trans s2) siz_ok.1 siz_ok.2.1 siz_ok.2.2)⟩, fun hk hl H2 ev vk mt kp => ?_⟩
      exact ⟨by show 2 ≤ sizeLine; decide, fun t ht => q3 hk hl _ t (((Ev.same s1).trans ev).trans (Ev.same (same_upd ht))) (((Sv.vk (Same.sv s1)).trans vk).trans (Sv.vk (Same.sv (same_upd ht)))) ⟨m, mt.same (same_upd ht)⟩ ⟨u, upd_same, (vk.v _ _ (hu.sv (Same.sv s1))).sv (Same.sv (same_upd ht))⟩⟩
end
end My
namespace My
open PySem L2 SX XT XS XE XD XL XZ
open C8 (pss_cut tCut cutS_slice pe_gc)
/-- how the law goes on: its own rows at r may change -/
structure Gw (A : Ads) (a a' : Sa) (r : Addr) (H H' : Hp) : Prop where
  fr : ∀ b u, H b = some u → ¬ a.own b → b ≠ r → H' b = some u
  s : a'.s = a.s
  gw : ∀ b, a'.own b → a.own b ∨ H b = none
  vk : Vk A H H'
theorem Gw.ev {A : Ads} {a a' : Sa} {r : Addr} {H H' : Hp} (e : Ev a a' H H') (v : Vk A H H') : Gw A a a' r H H' := ⟨fun b u h n _ => e.fr b u h n, e.s, e.gw, v⟩
theorem Gw.same {A : Ads} {a : Sa} {r : Addr} {H H' : Hp} (s : Same H H') : Gw A a a r H H' := Gw.ev (Ev.same s) (Sv.vk (Same.sv s))
theorem Gw.keep {A : Ads} {a : Sa} {r : Addr} {H H' : Hp} {xs : List V} (k : Keep r H H') (h : H r = some (.lst xs)) : Gw A a a r H H' := ⟨fun b u e _ n => k b u e n, rfl, fun _ z => .inl z, Sv.vk (Keep.sv k h)⟩
theorem Gw.trans {A : Ads} {a b c : Sa} {r : Addr} {H H1 H2 : Hp} {xs : List V} (h1 : H1 r = some (.lst xs)) (x : Gw A a b r H H1) (y : Gw A b c r H1 H2) : Gw A a c r H H2 := by
  refine ⟨fun d u e n nr => y.fr _ _ (x.fr _ _ e n nr) (fun z => ?_) nr, y.s.trans x.s, fun d z => ?_, x.vk.trans y.vk⟩
  · rcases x.gw d z with q | q
    · exact n q
    · rw [q] at e; cases e
  · rcases y.gw d z with q | q
    · exact x.gw d q
    · cases e : H d with
      | none => exact .inr rfl
      | some u =>
        by_cases o : a.own d
        · exact .inl o
        · by_cases dr : d = r
          · rw [dr, h1] at q; cases q
          · rw [x.fr _ _ e o dr] at q; cases q
section
variable {P : Program} {w : World} {K : PySem.W.Frag} {mg : Str → Option Value} {base : Heap} {A : Ads}
/-- the law's rows at r -/
structure Rw (A : Ads) (a : Sa) (H : Hp) (r : Addr) (us : List V) (es : List (Dv × Dv)) : Prop where
  hr : H r = some (.lst us)
  ps : Prt A H us es
  no : ¬ a.own r
theorem Rw.same {a : Sa} {H H' : Hp} {r : Addr} {us : List V} {es : List (Dv × Dv)} (h : Rw A a H r us es) (s : Same H H') : Rw A a H' r us es := ⟨s _ _ h.hr, h.ps.imp (Sv.vk (Same.sv s)), h.no⟩
/-- a step of the law has come to its end -/
def RQ (P : Program) (w : World) (A : Ads) (a : Sa) (S : St) (r : Addr) (H : Hp) (Q : VK) : Prop := ∀ H' a' S' x m us es, Gw A a a' r H H' → Mt P w A H' a' S' 1 x m es → S'.things.length ≤ S.things.length + 110 → Rw A a' H' r us es → Q (.bl true) H'
theorem TlAt.keep {H H' : Hp} {t r : Addr} {us : List V} (hr : H r = some (.lst us)) (k : Keep r H H') {q : Tl} (h : TlAt K A H t q) : TlAt K A H' t q := h.imp (Sv.vk (Keep.sv k hr))
theorem putT_len {S : St} {n : Nat} {es : List (Dv × Dv)} : (S.putT n es).things.length = S.things.length := by
  unfold St.putT
  rw [List.length_set]
theorem Mt.keep {H H' : Hp} {a : Sa} {S : St} {n : Nat} {x m p : Addr} {es : List (Dv × Dv)} {xs : List V} (q : Mt P w A H a S n x m es) (k : Keep p H H') (hp : H p = some (.lst xs)) (np : ¬ a.own p) : Mt P w A H' a S n x m es := ⟨q.sm.keep k hp np, q.x_, q.m_, q.th⟩
theorem err_eq {H : Hp} {t : Addr} {k m : Str} {Q : VK} (h : TlAt K A H t (.err k m)) (q : ∀ H', Same H H' → Q (.bl true) H') : ∀ T, H T = none → ∃ d e, Dp K (upd H T (.tup [.str k, .str m])) (.ref t) d ∧ Dp K (upd H T (.tup [.str k, .str m])) (.ref T) e ∧ SeqAt.shaped d = true ∧ SeqAt.shaped e = true ∧ Q (.bl (PyData.eqv d e)) (upd H T (.tup [.str k, .str m])) := fun T nT => by
  obtain ⟨s1, hk, k1, k2⟩ := h
  refine ⟨_, _, ss_dpT (SqT.of (same_upd nT _ _ s1)), ss_dpT (SqT.of upd_same), ss_shape k1 k2, ss_shape k1 k2, ?_⟩
  rw [eqv_ss, decide_eq_true rfl, decide_eq_true rfl]
  exact q _ (same_upd nT)
/-- of a deed which leaves the rows alone -/
theorem Rw.ev {a a' : Sa} {H H' : Hp} {r : Addr} {us : List V} {es : List (Dv × Dv)} (h : Rw A a H r us es) (f : Ev a a' H H') (v : Vk A H H') : Rw A a' H' r us es := ⟨f.fr _ _ h.hr h.no, h.ps.imp v, f.nin h.hr h.no⟩
end
end My
namespace My
open PySem L2 SX XT XS XE XD XL XZ
open C8 (pss_cut tCut cutS_slice pe_gc)
section
variable {P : Program} {w : World} {K : PySem.W.Frag} {mg : Str → Option Value} {base : Heap} {A : Ads}
theorem fst_val {es : List (Dv × Dv)} {k : Dv} {i : Int} (h : Fst1 es k i) : (i < 0 ↔ valE es k = none) := by
  rcases h with ⟨rfl, h⟩ | ⟨j, p, rfl, hp, e⟩
  · refine ⟨fun _ => ?_, fun _ => by decide⟩
    cases c : valE es k with
    | none => rfl
    | some d =>
      have : (valE es k).isSome = true := by rw [c]; rfl
      obtain ⟨p, hp, e⟩ := List.mem_map.mp (valE_some.mp this)
      exact absurd e (h p hp)
  · have : (valE es k).isSome = true := valE_some.mpr (List.mem_map.mpr ⟨p, List.mem_of_getElem? hp, e⟩)
    exact ⟨fun z => absurd z (by omega), fun z => by rw [z] at this; cases this⟩
def spLSet (P : Program) (w : World) (A : Ads) : Sp := fun vs H Q _ => ∃ (a : Sa) (S : St) (x m r : Addr) (us : List V) (es : List (Dv × Dv)) (v u : V) (k d : Dv), vs = [.ref a.s, .ref r, v, u] ∧ Mt P w A H a S 1 x m es ∧ Rw A a H r us es ∧ keyD k = true ∧ Has A H v k ∧ Has A H u d ∧ S.things.length < 50000 ∧ RQ P w A a S r H Q
theorem ok_law_set (L : Lib P K mg A) (D : Fd w L) : FnOk P w K mg base CX0 10 L.law_set.f L.law_set.fd ["store", "rows", "key", "value"] (spLSet P w A) := by
  have G_law_try : FnOk P w K mg base CX0 9 L.law_try.f L.law_try.fd ["store", "deed", "name", "values"] (spLTry P w K A) := ok_law_try L D
  have G_law_at : FnOk P w K mg base CX0 3 L.law_at.f L.law_at.fd ["rows", "key"] (spLAt K A) := ok_law_at L
  have G_law_put : FnOk P w K mg base CX0 4 L.law_put.f L.law_put.fd ["rows", "key", "value"] (spLPut K A) := ok_law_put L
  have G_law_is : FnOk P w K mg base CX0 3 L.law_is.f L.law_is.fd ["told", "value"] (spLIs K A) := ok_law_is L
  refine L.law_set.F.ok sc_law_set (fun vs H Q E h => ?_) (fun cdv A' outer s H vs Q E hr h => ?_)
  · obtain ⟨a, S, x, m, r, us, es, v, u, k, d, rfl, _⟩ := h
    rfl
  · obtain ⟨a, S, x, m, r, us, es, v, u, k, d, rfl, mt, rw0, hk, hv, hu, hb, q⟩ := h
    obtain ⟨ents, T, hE, nd, le⟩ := mt.at_
    have ul : us.length = es.length := (rw0.ps.prs (K := K)).len
    refine ⟨_, (pss_cons (ps_set (i := 4) sc_law_set.nd rfl (.inl rfl) (pe_call G_law_try (hr.mono (by omega)) (by rfl) L.law_try.g L.law_try.F.kp L.law_try.b .nil pass0 (pa_cons (pv 0) (pa_cons pe_str (pa_cons pe_str (pa_cons (pe_lst (pa_cons (pv 2) (pa_cons (pv 3) pa_nil))) pa_nil))))))
      (pss_cut (ps_if (PW.pt (pw_and (pt_cmpR op_lt (pe_call G_law_at (hr.mono (by omega)) (by rfl) L.law_at.g L.law_at.F.kp L.law_at.b .nil pass0 (pa_cons (pv 1) (pa_cons (pv 2) pa_nil))) pe_int (nomark _)) (pw_and1 (pt_cmpR op_ge (pe_callB call_len_seq (by rfl) L.z_len PySem.boot_len (pa_cons (pv 1) pa_nil)) pe_int (nomark _)))))
        (pss_one (ps_ret (pe_cmpR (op_eqD (units64 hr)) (pv 4) (pe_tup (pa_cons pe_str (pa_cons pe_str pa_nil))) (nomark _))))
        pss_nil)
      (pss_cons (ps_expr (pe_call G_law_put (hr.mono (by omega)) (by rfl) L.law_put.g L.law_put.F.kp L.law_put.b .nil pass0 (pa_cons (pv 1) (pa_cons (pv 2) (pa_cons (pv 3) pa_nil)))))
      (pss_one (ps_ret (pe_call G_law_is (hr.mono (by omega)) (by rfl) L.law_is.g L.law_is.F.kp L.law_is.b .nil pass0 (pa_cons (pv 4) (pa_cons (pv 3) pa_nil)))))))), ?_⟩
    refine ⟨_, rfl, _, rfl, _, rfl, (by show 2 ≤ sizeLine; decide), fun l nl => ?_⟩
    have s1 := same_upd (o := .lst [v, u]) nl
    refine ⟨a, S, x, m, es, l, [v, u], .set k d, rfl, mt.same s1, SqL.of upd_same, ⟨hv.sv (Same.sv s1), hu.sv (Same.sv s1), trivial⟩, hb, ⟨⟨(fun z => by rw [hk] at z; cases z), fun _ hn hl H2 t s2 ht => ?_⟩, fun _ hl H2 t ev vk mt2 ht => ?_⟩⟩
    · have rw2 := (rw0.same s1).same s2
      refine ⟨fun _ _ => False, ?_, fun _ _ h => h.elim⟩
      refine ⟨_, rfl, _, rfl, r, us, es, v, k, rfl, SqL.of rw2.hr, rw2.ps.prs, hv.sv (Same.sv (s1.trans s2)), by omega, fun i hf => ⟨_, _, rfl, rfl, _, rfl, ?_⟩⟩
      refine ifT (decide_eq_true ((fst_val hf).mpr hn)) ?_
      refine ⟨_, rfl, r, us, rfl, .inl (SqL.of rw2.hr), _, _, rfl, rfl, _, rfl, ifT (decide_eq_true (by omega)) ?_⟩
      exact ⟨_, rfl, (by show 2 ≤ sizeLine; decide), err_eq ht fun H3 s3 => q H3 a S x m us es (Gw.same ((s1.trans s2).trans s3)) (mt.same ((s1.trans s2).trans s3)) (by omega) (rw2.same s3)⟩
    · have rw2 := (rw0.same s1).ev ev vk
      have hv2 := vk.v _ _ (hv.sv (Same.sv s1))
      have hu2 := vk.v _ _ (hu.sv (Same.sv s1))
      refine ⟨fun σ' H' => σ' = [some (.ref a.s), some (.ref r), some v, some u, some (.ref t)] ∧ H' = H2, ?_, ?_⟩
      · refine ⟨_, rfl, _, rfl, r, us, es, v, k, rfl, SqL.of rw2.hr, rw2.ps.prs, hv2, by omega, fun i hf => ⟨_, _, rfl, rfl, _, rfl, ?_⟩⟩
        by_cases c : i < 0
        · have hn := (fst_val hf).mp c
          refine ifT (decide_eq_true c) ?_
          refine ⟨_, rfl, r, us, rfl, .inl (SqL.of rw2.hr), _, _, rfl, rfl, _, rfl, ifF (decide_eq_false ?_) ⟨rfl, rfl⟩⟩
          rcases hl with z | z
          · rw [hn] at z; cases z
          · omega
        · exact ifF (decide_eq_false c) ⟨rfl, rfl⟩
      · rintro σ' H' ⟨rfl, rfl⟩
        refine ⟨_, rfl, _, rfl, _, rfl, r, us, es, v, u, k, d, rfl, rw2.hr, rw2.ps, nd, hk, hv2, hu2, by omega, fun H3 us3 kp hr3 ps3 => ?_⟩
        have ht3 := ht.keep rw2.hr kp
        obtain ⟨m2, mt2⟩ := mt2
        refine ⟨_, rfl, _, rfl, t, u, d, d, rfl, ht3, hu2.sv (Keep.sv kp rw2.hr), ?_⟩
        rw [decide_eq_true rfl]
        exact q H3 a _ x m2 us3 _ (Gw.trans (s1 _ _ rw0.hr) (Gw.same s1) (Gw.trans rw2.hr (Gw.ev ev vk) (Gw.keep kp rw2.hr))) (mt2.keep kp rw2.hr rw2.no) (by rw [putT_len]; omega) ⟨hr3, ps3, rw2.no⟩
end
end My
namespace My
open PySem L2 SX XT XS XE XD XL XZ
open C8 (pss_cut tCut cutS_slice pe_gc)
section
variable {P : Program} {w : World} {K : PySem.W.Frag} {mg : Str → Option Value} {base : Heap} {A : Ads}
/-- reading -/
def spLRead (P : Program) (w : World) (A : Ads) : Sp := fun vs H Q _ => ∃ (a : Sa) (S : St) (x m r : Addr) (us : List V) (es : List (Dv × Dv)) (v u : V) (k d : Dv), vs = [.ref a.s, .ref r, v, u] ∧ Mt P w A H a S 1 x m es ∧ Rw A a H r us es ∧ keyD k = true ∧ Has A H v k ∧ Has A H u d ∧ okV S d ∧ S.things.length < 50000 ∧ RQ P w A a S r H Q
theorem fst_at {es : List (Dv × Dv)} {k : Dv} {i : Int} (nd : (es.map Prod.fst).Nodup) (h : Fst1 es k i) : (i < 0 ∧ valE es k = none) ∨ ∃ (j : Nat) (p : Dv × Dv), i = ((j : Nat) : Int) ∧ es[j]? = some p ∧ p.1 = k ∧ valE es k = some p.2 := by
  rcases h with ⟨rfl, h⟩ | ⟨j, p, rfl, hp, e⟩
  · exact .inl ⟨by decide, (fst_val (.inl ⟨rfl, h⟩)).mp (by decide)⟩
  · refine .inr ⟨j, p, rfl, hp, e, ?_⟩
    unfold valE
    cases hf : es.find? (fun p => decide (p.1 = k)) with
    | none =>
      have := List.find?_eq_none.mp hf p (List.mem_of_getElem? hp)
      exact absurd (decide_eq_true e) this
    | some q =>
      have hq := List.mem_of_find?_eq_some hf
      have eq : q.1 = k := by simpa using List.find?_some hf
      obtain ⟨j2, hj2, ej2⟩ := List.mem_iff_getElem.mp hq
      have : j = j2 := nodup_get (x := k) nd (by rw [List.getElem?_map, hp]; exact congrArg some e) (by rw [List.getElem?_map, List.getElem?_eq_getElem hj2, ej2]; exact congrArg some eq)
      subst this
      rw [List.getElem?_eq_getElem hj2, ej2] at hp
      cases hp
      rfl
theorem ok_law_read (L : Lib P K mg A) (D : Fd w L) : FnOk P w K mg base CX0 10 L.law_read.f L.law_read.fd ["store", "rows", "key", "value"] (spLRead P w A) := by
  have G_law_try : FnOk P w K mg base CX0 9 L.law_try.f L.law_try.fd ["store", "deed", "name", "values"] (spLTry P w K A) := ok_law_try L D
  have G_law_at : FnOk P w K mg base CX0 3 L.law_at.f L.law_at.fd ["rows", "key"] (spLAt K A) := ok_law_at L
  have G_law_is : FnOk P w K mg base CX0 3 L.law_is.f L.law_is.fd ["told", "value"] (spLIs K A) := ok_law_is L
  refine L.law_read.F.ok sc_law_read (fun vs H Q E h => ?_) (fun cdv A' outer s H vs Q E hr h => ?_)
  · obtain ⟨a, S, x, m, r, us, es, v, u, k, d, rfl, _⟩ := h
    rfl
  · obtain ⟨a, S, x, m, r, us, es, v, u, k, d, rfl, mt, rw0, hk, hv, hu, hd, hb, q⟩ := h
    obtain ⟨ents, T, hE, nd, le⟩ := mt.at_
    have ul : us.length = es.length := (rw0.ps.prs (K := K)).len
    refine ⟨_, (pss_cons (ps_set (i := 4) sc_law_read.nd rfl (.inl rfl) (pe_call G_law_at (hr.mono (by omega)) (by rfl) L.law_at.g L.law_at.F.kp L.law_at.b .nil pass0 (pa_cons (pv 1) (pa_cons (pv 2) pa_nil))))
      (pss_cons (ps_set (i := 5) sc_law_read.nd rfl (.inl rfl) (pe_call G_law_try (hr.mono (by omega)) (by rfl) L.law_try.g L.law_try.F.kp L.law_try.b .nil pass0 (pa_cons (pv 0) (pa_cons pe_str (pa_cons pe_str (pa_cons (pe_lst (pa_cons (pv 2) pa_nil)) pa_nil))))))
      (pss_cons (ps_set (i := 6) sc_law_read.nd rfl (.inl rfl) (pe_call G_law_try (hr.mono (by omega)) (by rfl) L.law_try.g L.law_try.F.kp L.law_try.b .nil pass0 (pa_cons (pv 0) (pa_cons pe_str (pa_cons pe_str (pa_cons (pe_lst (pa_cons (pv 2) (pa_cons (pv 3) pa_nil))) pa_nil))))))
      (pss_cons (ps_set (i := 7) sc_law_read.nd rfl (.inl rfl) (pe_call G_law_try (hr.mono (by omega)) (by rfl) L.law_try.g L.law_try.F.kp L.law_try.b .nil pass0 (pa_cons (pv 0) (pa_cons pe_str (pa_cons pe_str (pa_cons (pe_lst (pa_cons (pv 2) pa_nil)) pa_nil))))))
      (pss_cons (ps_if (pt_cmpR op_lt (pv 4) pe_int (nomark _))
        (pss_one (ps_ret (pe_and (pe_cmpR (op_eqD (units64 hr)) (pv 5) (pe_tup (pa_cons pe_str (pa_cons pe_str pa_nil))) (nomark _)) (pe_and (pe_call G_law_is (hr.mono (by omega)) (by rfl) L.law_is.g L.law_is.F.kp L.law_is.b .nil pass0 (pa_cons (pv 6) (pa_cons (pv 3) pa_nil))) (pe_one (pe_call G_law_is (hr.mono (by omega)) (by rfl) L.law_is.g L.law_is.F.kp L.law_is.b .nil pass0 (pa_cons (pv 7) (pa_cons pe_bl pa_nil))))))))
        pss_nil)
      (pss_one (ps_ret (pe_and (pe_call G_law_is (hr.mono (by omega)) (by rfl) L.law_is.g L.law_is.F.kp L.law_is.b .nil pass0 (pa_cons (pv 5) (pa_cons (pe_ix ix_tup (pe_ix ix_list (pv 1) (pv 4) (fun _ _ => rfl)) pe_int (fun _ _ => rfl)) pa_nil))) (pe_and (pe_call G_law_is (hr.mono (by omega)) (by rfl) L.law_is.g L.law_is.F.kp L.law_is.b .nil pass0 (pa_cons (pv 6) (pa_cons (pe_ix ix_tup (pe_ix ix_list (pv 1) (pv 4) (fun _ _ => rfl)) pe_int (fun _ _ => rfl)) pa_nil))) (pe_one (pe_call G_law_is (hr.mono (by omega)) (by rfl) L.law_is.g L.law_is.F.kp L.law_is.b .nil pass0 (pa_cons (pv 7) (pa_cons pe_bl pa_nil))))))))))))), ?_⟩
    refine ⟨_, rfl, _, rfl, r, us, es, v, k, rfl, SqL.of rw0.hr, rw0.ps.prs, hv, by omega, fun i hf => ?_⟩
    refine ⟨_, rfl, _, rfl, (by show 1 ≤ sizeLine; decide), fun l nl => ?_⟩
    have s1 := same_upd (o := .lst [v]) nl
    have go : ∀ {H2 : Hp} {t : Addr} {r1 : Tl}, Same H H2 → TlAt K A H2 t r1 → (valE es k = none → r1 = .err "KeyError" "no such key") → (∀ e, valE es k = some e → r1 = .told e) → True := fun _ _ _ _ => trivial
    refine ⟨a, S, x, m, es, l, [v], .get k, rfl, mt.same s1, SqL.of upd_same, ⟨hv.sv (Same.sv s1), trivial⟩, hb, ⟨(fun z => by rw [hk] at z; cases z), fun _ hn H2 t s2 ht => ?_, fun e H2 t _ he s2 ht => ?_⟩⟩
    · have s12 := s1.trans s2
      refine ⟨_, rfl, _, rfl, _, rfl, (by show 2 ≤ sizeLine; decide), fun l2 nl2 => ?_⟩
      have s3 := s12.trans (same_upd (o := .lst [v, u]) nl2)
      refine ⟨a, S, x, m, es, l2, [v, u], .call (.ok (.get k d)), rfl, mt.same s3, SqL.of upd_same, ⟨hv.sv (Same.sv s3), hu.sv (Same.sv s3), trivial⟩, hb, ⟨hk, (fun k2 d2 e => by cases e; exact hd), nofun⟩, fun H4 t4 ev4 vk4 mt4 ht4 => ?_⟩
      obtain ⟨m4, mt4⟩ := mt4
      have rw4 := (rw0.same s3).ev ev4 vk4
      have v3 := (Sv.vk (Same.sv s3)).trans vk4
      refine ⟨_, rfl, _, rfl, (by show 1 ≤ sizeLine; decide), fun l3 nl3 => ?_⟩
      have s5 := same_upd (o := .lst [v]) nl3
      refine ⟨a, S.putT 1 es, x, m4, es, l3, [v], .call (.ok (.has k)), rfl, mt4.same s5, SqL.of upd_same, ⟨(v3.v _ _ hv).sv (Same.sv s5), trivial⟩, by rw [putT_len]; exact hb, ⟨hk, nofun, nofun⟩, fun H6 t6 ev6 vk6 mt6 ht6 => ?_⟩
      obtain ⟨m6, mt6⟩ := mt6
      have v6 := (v3.trans (Sv.vk (Same.sv s5))).trans vk6
      have v46 : Vk A H4 H6 := (Sv.vk (Same.sv s5)).trans vk6
      have rw6 := (rw4.same s5).ev ev6 vk6
      refine ⟨_, rfl, _, _, rfl, rfl, _, rfl, ifT (decide_eq_true ((fst_val hf).mpr hn)) ?_⟩
      have ht2 : TlAt K A H6 t (.err "KeyError" "no such key") := (ht.imp (Sv.vk (Same.sv (same_upd nl2)))).imp (vk4.trans v46)
      have ht5 : TlAt K A H6 t4 (.told d) := by
        have : (Cl.get k d).res es = .val ((valE es k).getD d) es := rfl
        rw [hn] at ht4
        exact ht4.imp v46
      have ht7 : TlAt K A H6 t6 (.told (.bl false)) := by
        rw [hn] at ht6
        exact ht6
      refine ⟨_, rfl, (by show 2 ≤ sizeLine; decide), fun T nT => ⟨_, _, ss_dpT (SqT.of (same_upd nT _ _ ht2.1)), ss_dpT (SqT.of upd_same), ss_shape kye_ok.2.1 kye_ok.2.2, ss_shape kye_ok.2.1 kye_ok.2.2, _, rfl, ?_⟩⟩
      rw [eqv_ss, decide_eq_true rfl, decide_eq_true rfl]
      have s7 := same_upd (o := .tup [.str "KeyError", .str "no such key"]) nT
      refine iteT ⟨_, rfl, _, rfl, t4, u, d, d, rfl, ht5.same s7, (v6.v _ _ hu).sv (Same.sv s7), ?_⟩
      rw [decide_eq_true rfl]
      refine ⟨_, rfl, iteT ⟨_, rfl, t6, .bl false, .bl false, .bl false, rfl, ht7.same s7, rfl, ?_⟩⟩
      rw [decide_eq_true rfl]
      exact q _ a _ x m6 us es (Gw.trans (s3 _ _ rw0.hr) (Gw.same s3) (Gw.trans rw4.hr (Gw.ev ev4 vk4) (Gw.trans (s5 _ _ rw4.hr) (Gw.same s5) (Gw.trans rw6.hr (Gw.ev ev6 vk6) (Gw.same s7))))) (mt6.same s7) (by rw [putT_len, putT_len]; omega) (rw6.same s7)
    · have s12 := s1.trans s2
      refine ⟨_, rfl, _, rfl, _, rfl, (by show 2 ≤ sizeLine; decide), fun l2 nl2 => ?_⟩
      have s3 := s12.trans (same_upd (o := .lst [v, u]) nl2)
      refine ⟨a, S, x, m, es, l2, [v, u], .call (.ok (.get k d)), rfl, mt.same s3, SqL.of upd_same, ⟨hv.sv (Same.sv s3), hu.sv (Same.sv s3), trivial⟩, hb, ⟨hk, (fun k2 d2 e => by cases e; exact hd), nofun⟩, fun H4 t4 ev4 vk4 mt4 ht4 => ?_⟩
      obtain ⟨m4, mt4⟩ := mt4
      have rw4 := (rw0.same s3).ev ev4 vk4
      have v3 := (Sv.vk (Same.sv s3)).trans vk4
      refine ⟨_, rfl, _, rfl, (by show 1 ≤ sizeLine; decide), fun l3 nl3 => ?_⟩
      have s5 := same_upd (o := .lst [v]) nl3
      refine ⟨a, S.putT 1 es, x, m4, es, l3, [v], .call (.ok (.has k)), rfl, mt4.same s5, SqL.of upd_same, ⟨(v3.v _ _ hv).sv (Same.sv s5), trivial⟩, by rw [putT_len]; exact hb, ⟨hk, nofun, nofun⟩, fun H6 t6 ev6 vk6 mt6 ht6 => ?_⟩
      obtain ⟨m6, mt6⟩ := mt6
      have v46 : Vk A H4 H6 := (Sv.vk (Same.sv s5)).trans vk6
      have rw6 := (rw4.same s5).ev ev6 vk6
      rcases fst_at nd hf with ⟨_, hn⟩ | ⟨j, p, rfl, hp, hpk, hval⟩
      · rw [hn] at he; cases he
      rw [hval] at he
      cases he
      refine ⟨_, rfl, _, _, rfl, rfl, _, rfl, ifF (decide_eq_false (by omega)) ?_⟩
      have ht2 : TlAt K A H6 t (.told p.2) := (ht.imp (Sv.vk (Same.sv (same_upd nl2)))).imp (vk4.trans v46)
      have ht5 : TlAt K A H6 t4 (.told p.2) := by
        have : (Cl.get k d).res es = .val ((valE es k).getD d) es := rfl
        rw [hval] at ht4
        exact ht4.imp v46
      have ht7 : TlAt K A H6 t6 (.told (.bl true)) := by
        rw [hval] at ht6
        exact ht6
      obtain ⟨z, hz⟩ : ∃ z, us[j]? = some z := ⟨_, List.getElem?_eq_getElem (by have := (List.getElem?_eq_some_iff.mp hp).1; omega)⟩
      obtain ⟨p2, qa, k2, u2, hp2, _, rfl, hq, hk3, hu3⟩ := (rw6.ps.prs (K := K)).at hz
      rw [hp] at hp2
      cases hp2
      refine ⟨_, rfl, _, rfl, _, rfl, r, _, _, _, rfl, rfl, SqL.of rw6.hr, atI_nat hz, qa, _, _, _, rfl, rfl, hq, atI_nat (j := 1) rfl, t, u2, p.2, p.2, rfl, ht2, hu3, ?_⟩
      rw [decide_eq_true rfl]
      refine ⟨_, rfl, iteT ⟨_, rfl, _, rfl, _, rfl, r, _, _, _, rfl, rfl, SqL.of rw6.hr, atI_nat hz, qa, _, _, _, rfl, rfl, hq, atI_nat (j := 1) rfl, t4, u2, p.2, p.2, rfl, ht5, hu3, ?_⟩⟩
      rw [decide_eq_true rfl]
      refine ⟨_, rfl, iteT ⟨_, rfl, t6, .bl true, .bl true, .bl true, rfl, ht7, rfl, ?_⟩⟩
      rw [decide_eq_true rfl]
      exact q _ a _ x m6 us es (Gw.trans (s3 _ _ rw0.hr) (Gw.same s3) (Gw.trans rw4.hr (Gw.ev ev4 vk4) (Gw.trans (s5 _ _ rw4.hr) (Gw.same s5) (Gw.ev ev6 vk6)))) mt6 (by rw [putT_len, putT_len]; omega) rw6
end
end My
namespace My
open PySem L2 SX XT XS XE XD XL XZ
open C8 (pss_cut tCut cutS_slice pe_gc)
section
variable {P : Program} {w : World} {K : PySem.W.Frag} {mg : Str → Option Value} {base : Heap} {A : Ads}
theorem Prt.del {H : Hp} : ∀ {vs : List V} {ps : List (Dv × Dv)} {j : Nat}, Prt A H vs ps → Prt A H (vs.take j ++ vs.drop (j + 1)) (ps.take j ++ ps.drop (j + 1))
  | [], [], _, _ => by simp [Prt]
  | _ :: _, _ :: _, 0, ⟨_, r⟩ => r
  | _ :: _, _ :: _, j + 1, ⟨h1, r⟩ => ⟨h1, Prt.del r⟩
  | [], _ :: _, _, h => h.elim
  | _ :: _, [], _, h => h.elim
theorem dropE_at {k : Dv} : ∀ {es : List (Dv × Dv)} {j : Nat} {p : Dv × Dv}, (es.map Prod.fst).Nodup → es[j]? = some p → p.1 = k → dropE es k = es.take j ++ es.drop (j + 1)
  | [], _, _, _, h, _ => by simp at h
  | q :: es, 0, p, nd, h, e => by
    simp at h
    subst h
    subst e
    exact dropE_head nd
  | q :: es, j + 1, p, nd, h, e => by
    rw [List.getElem?_cons_succ] at h
    rw [List.map_cons, List.nodup_cons] at nd
    have ih := dropE_at nd.2 h e
    have : q.1 ≠ k := fun z => nd.1 (by rw [z, ← e]; exact List.mem_map.mpr ⟨p, List.mem_of_getElem? h, rfl⟩)
    unfold dropE at ih ⊢
    rw [List.filter_cons, if_pos (by simpa using this), ih]
    rfl
theorem sIx_pos {n d : Nat} {i : Int} (h0 : 0 ≤ i) (h : i ≤ n) : HT.sIx n d (some i) = i.toNat := by
  show (if i < 0 then _ else _) = _
  rw [if_neg (by omega)]
  omega
theorem cut_take {xs : List V} {j : Nat} (h : j < xs.length) : cutV xs none (some ((j : Nat) : Int)) = xs.take j := by
  unfold cutV
  have e1 : HT.sIx xs.length 0 none = 0 := rfl
  have e2 : HT.sIx xs.length xs.length (some ((j : Nat) : Int)) = j := by
    rw [sIx_pos (by omega) (by omega)]
    omega
  rw [e1, e2, List.drop_zero, Nat.sub_zero]
theorem cut_drop {xs : List V} {j : Nat} (h : j < xs.length) : cutV xs (some (((j : Nat) : Int) + 1)) none = xs.drop (j + 1) := by
  unfold cutV
  have e1 : HT.sIx xs.length 0 (some (((j : Nat) : Int) + 1)) = j + 1 := by
    rw [sIx_pos (by omega) (by omega)]
    omega
  have e2 : HT.sIx xs.length xs.length none = xs.length := rfl
  rw [e1, e2, List.take_of_length_le]
  rw [List.length_drop]
  omega
def spLTaken (P : Program) (w : World) (A : Ads) : Sp := fun vs H Q _ => ∃ (a : Sa) (S : St) (x m r : Addr) (us : List V) (es : List (Dv × Dv)) (v : V) (k : Dv), vs = [.ref a.s, .ref r, v] ∧ Mt P w A H a S 1 x m es ∧ Rw A a H r us es ∧ keyD k = true ∧ Has A H v k ∧ S.things.length < 50000 ∧ RQ P w A a S r H Q
theorem ok_law_taken (L : Lib P K mg A) (D : Fd w L) : FnOk P w K mg base CX0 10 L.law_taken.f L.law_taken.fd ["store", "rows", "key"] (spLTaken P w A) := by
  have G_law_try : FnOk P w K mg base CX0 9 L.law_try.f L.law_try.fd ["store", "deed", "name", "values"] (spLTry P w K A) := ok_law_try L D
  have G_law_at : FnOk P w K mg base CX0 3 L.law_at.f L.law_at.fd ["rows", "key"] (spLAt K A) := ok_law_at L
  have G_law_is : FnOk P w K mg base CX0 3 L.law_is.f L.law_is.fd ["told", "value"] (spLIs K A) := ok_law_is L
  refine L.law_taken.F.ok sc_law_taken (fun vs H Q E h => ?_) (fun cdv A' outer s H vs Q E hr h => ?_)
  · obtain ⟨a, S, x, m, r, us, es, v, k, rfl, _⟩ := h
    rfl
  · obtain ⟨a, S, x, m, r, us, es, v, k, rfl, mt, rw0, hk, hv, hb, q⟩ := h
    obtain ⟨ents, T, hE, nd, le⟩ := mt.at_
    have ul : us.length = es.length := (rw0.ps.prs (K := K)).len
    refine ⟨_, (pss_cons (ps_set (i := 3) sc_law_taken.nd rfl (.inl rfl) (pe_call G_law_at (hr.mono (by omega)) (by rfl) L.law_at.g L.law_at.F.kp L.law_at.b .nil pass0 (pa_cons (pv 1) (pa_cons (pv 2) pa_nil))))
      (pss_cons (ps_set (i := 4) sc_law_taken.nd rfl (.inl rfl) (pe_call G_law_try (hr.mono (by omega)) (by rfl) L.law_try.g L.law_try.F.kp L.law_try.b .nil pass0 (pa_cons (pv 0) (pa_cons pe_str (pa_cons pe_str (pa_cons (pe_lst (pa_cons (pv 2) pa_nil)) pa_nil))))))
      (pss_cons (ps_if (pt_cmpR op_lt (pv 3) pe_int (nomark _))
        (pss_one (ps_ret (pe_cmpR (op_eqD (units64 hr)) (pv 4) (pe_tup (pa_cons pe_str (pa_cons pe_str pa_nil))) (nomark _))))
        pss_nil)
      (pss_cons (ps_set (i := 5) sc_law_taken.nd rfl (.inl rfl) (pe_ix ix_tup (pe_ix ix_list (pv 1) (pv 3) (fun _ _ => rfl)) pe_int (fun _ _ => rfl)))
      (pss_cons (ps_set (i := 6) sc_law_taken.nd rfl (.inl rfl) (pe_op op_cat (pe_slice sl_list (pv 1) po_none (po_some (pv 3))) (pe_slice sl_list (pv 1) (po_some (pe_op op_add (pv 3) pe_int)) po_none)))
      (pss_cons (ps_expr (pe_bm0 PySem.F.plainAttrs_list PySem.F.slot_list_clear PySem.F.type_list_clear mt_clear (pv 1)))
      (pss_cons (ps_expr (pe_bm PySem.F.plainAttrs_list PySem.F.slot_list_extend PySem.F.type_list_extend mt_extend (pv 1) (pa_cons (pv 6) pa_nil)))
      (pss_one (ps_ret (pe_call G_law_is (hr.mono (by omega)) (by rfl) L.law_is.g L.law_is.F.kp L.law_is.b .nil pass0 (pa_cons (pv 4) (pa_cons (pv 5) pa_nil)))))))))))), ?_⟩
    refine ⟨_, rfl, _, rfl, r, us, es, v, k, rfl, SqL.of rw0.hr, rw0.ps.prs, hv, by omega, fun i hf => ?_⟩
    refine ⟨_, rfl, _, rfl, (by show 1 ≤ sizeLine; decide), fun l nl => ?_⟩
    have s1 := same_upd (o := .lst [v]) nl
    rcases fst_at nd hf with ⟨hi, hn⟩ | ⟨j, p, rfl, hp, hpk, hval⟩
    · have hres : (Cl.remove k).res es = .err "KeyError" "no such key" := by show (match valE es k with | some d => _ | none => _) = _; rw [hn]
      refine ⟨a, S, x, m, es, l, [v], .call (.ok (.remove k)), rfl, mt.same s1, SqL.of upd_same, ⟨hv.sv (Same.sv s1), trivial⟩, hb, ⟨hk, nofun, nofun⟩, ?_⟩
      rw [hres]
      refine ⟨kye_ok, fun H2 t s2 ht => ?_⟩
      have s12 := s1.trans s2
      refine ⟨_, rfl, _, _, rfl, rfl, _, rfl, ifT (decide_eq_true hi) ?_⟩
      exact ⟨_, rfl, (by show 2 ≤ sizeLine; decide), err_eq ht fun H3 s3 => q H3 a S x m us es (Gw.same (s12.trans s3)) (mt.same (s12.trans s3)) (by omega) (rw0.same (s12.trans s3))⟩
    · have hres : (Cl.remove k).res es = .val p.2 (dropE es k) := by show (match valE es k with | some d => _ | none => _) = _; rw [hval]
      refine ⟨a, S, x, m, es, l, [v], .call (.ok (.remove k)), rfl, mt.same s1, SqL.of upd_same, ⟨hv.sv (Same.sv s1), trivial⟩, hb, ⟨hk, nofun, nofun⟩, ?_⟩
      rw [hres]
      intro H2 t ev vk mt2 ht
      have rw2 := (rw0.same s1).ev ev vk
      refine ⟨_, rfl, _, _, rfl, rfl, _, rfl, ifF (decide_eq_false (by omega)) ?_⟩
      obtain ⟨z, hz⟩ : ∃ z, us[j]? = some z := ⟨_, List.getElem?_eq_getElem (by have := (List.getElem?_eq_some_iff.mp hp).1; omega)⟩
      obtain ⟨p2, qa, k2, u2, hp2, _, rfl, hq, hk3, hu3⟩ := (rw2.ps.prs (K := K)).at hz
      rw [hp] at hp2
      cases hp2
      refine ⟨_, rfl, _, rfl, r, _, _, _, rfl, rfl, SqL.of rw2.hr, atI_nat hz, qa, _, _, _, rfl, rfl, hq, atI_nat (j := 1) rfl, ?_⟩
      have jl : j < us.length := by have := (List.getElem?_eq_some_iff.mp hp).1; omega
      have ul2 := le
      refine ⟨_, rfl, _, rfl, _, rfl, r, us, rfl, SqL.of rw2.hr, fun b nb => ?_⟩
      have sb := same_upd (o := .lst (cutV us none (some ((j : Nat) : Int)))) nb
      refine ⟨_, rfl, _, rfl, _, _, rfl, rfl, _, rfl, r, us, rfl, SqL.of (sb _ _ rw2.hr), fun c nc => ?_⟩
      have sc := same_upd (o := .lst (cutV us (some (((j : Nat) : Int) + 1)) none)) nc
      have hb0 := sc _ _ (upd_same : upd H2 b (.lst (cutV us none (some ((j : Nat) : Int)))) b = _)
      have lt1 := cutV_length us none (some ((j : Nat) : Int))
      have lt2 := cutV_length us (some (((j : Nat) : Int) + 1)) none
      refine ⟨b, c, _, _, rfl, rfl, hb0, upd_same, Nat.le_trans (m := 2000) (by omega) (by decide), fun d nd2 => ?_⟩
      have sd := same_upd (o := .lst (cutV us none (some ((j : Nat) : Int)) ++ cutV us (some (((j : Nat) : Int) + 1)) none)) nd2
      have sbd := (sb.trans sc).trans sd
      have hr5 := sbd _ _ rw2.hr
      have rd : r ≠ d := fun z => by rw [z] at hr5; exact absurd ((sb.trans sc) _ _ rw2.hr) (by rw [z, nd2]; nofun)
      refine ⟨_, rfl, .inl ⟨rfl, _, SqL.of hr5⟩, r, us, rfl, rfl, hr5, ?_⟩
      refine ⟨_, rfl, .inl ⟨rfl, _, SqL.of upd_same⟩, _, rfl, r, d, [], _, rfl, rfl, upd_same, by rw [upd_ne rd.symm]; exact upd_same, by rw [List.length_append]; exact Nat.le_trans (m := 2000) (by simp; omega) (by decide), ?_⟩
      rw [List.nil_append]
      have kp : ∀ {ys : List V}, Keep r H2 (upd (upd (upd (upd (upd H2 b (.lst (cutV us none (some ((j : Nat) : Int))))) c (.lst (cutV us (some (((j : Nat) : Int) + 1)) none))) d (.lst (cutV us none (some ((j : Nat) : Int)) ++ cutV us (some (((j : Nat) : Int) + 1)) none))) r (.lst [])) r (.lst ys)) := fun b' o e n => by rw [upd_ne n, upd_ne n]; exact sbd _ _ e
      have vkp := (Sv.vk (Keep.sv (kp (ys := cutV us none (some ((j : Nat) : Int)) ++ cutV us (some (((j : Nat) : Int) + 1)) none)) rw2.hr) : Vk A _ _)
      refine ⟨_, rfl, _, rfl, t, u2, p.2, p.2, rfl, ht.imp vkp, vkp.v _ _ hu3, ?_⟩
      rw [decide_eq_true rfl]
      obtain ⟨m2, mt2⟩ := mt2
      refine q _ a _ x m2 (us.take j ++ us.drop (j + 1)) _ (Gw.trans (s1 _ _ rw0.hr) (Gw.same s1) (Gw.trans rw2.hr (Gw.ev ev vk) (Gw.keep kp rw2.hr))) (mt2.keep kp rw2.hr rw2.no) (by rw [putT_len]; omega) ⟨?_, ?_, rw2.no⟩
      · rw [upd_same, cut_take jl, cut_drop jl]
      · rw [dropE_at nd hp hpk]
        exact (rw2.ps.imp vkp).del
end
end My
namespace My
open PySem L2 SX XT XS XE XD XL XZ
open C8 (pss_cut tCut cutS_slice pe_gc)
section
variable {P : Program} {w : World} {K : PySem.W.Frag} {mg : Str → Option Value} {base : Heap} {A : Ads}
def spKey (K : PySem.W.Frag) (A : Ads) : Sp := fun vs H Q _ => ∃ (a p : Addr) (ns : List Int), vs = [.ref p] ∧ StL K H a p ns ∧ ∀ H' v d, Keep p H H' → StL K H' a p ns → keyD d = true → Has A H' v d → Q v H'
theorem ok_law_key (L : Lib P K mg A) : FnOk P w K mg base CX0 4 L.law_key.f L.law_key.fd ["state"] (spKey K A) := by
  have G_law_pick : FnOk P w K mg base CX0 3 L.law_pick.f L.law_pick.fd ["state", "row"] (spPick K) := ok_law_pick L
  refine L.law_key.F.ok sc_law_key (fun vs H Q E h => ?_) (fun cdv A' outer s H vs Q E hr h => ?_)
  · obtain ⟨a, p, ns, rfl, _⟩ := h
    rfl
  · obtain ⟨a, p, ns, rfl, st, q⟩ := h
    refine ⟨_, (pss_one (ps_ret (pe_call G_law_pick (hr.mono (by omega)) (by rfl) L.law_pick.g L.law_pick.F.kp L.law_pick.b .nil pass0 (pa_cons (pv 0) (pa_cons (pe_tup (pa_cons pe_non (pa_cons pe_bl (pa_cons pe_bl (pa_cons pe_int (pa_cons pe_int (pa_cons pe_str (pa_cons pe_str (pa_cons pe_str (pa_cons pe_str pa_nil)))))))))) pa_nil))))), ?_⟩
    refine ⟨_, rfl, (by show 9 ≤ sizeLine; decide), fun T nT => ?_⟩
    have s3 := same_upd (o := .tup [.non, .bl true, .bl false, .int 0, .int 1, .str "", .str "a", .str "1", .str "true"]) nT
    refine ⟨a, p, T, ns, _, rfl, st.same s3, SqT.of upd_same, by show 0 < 9; decide, by show 9 ≤ 100; decide, fun H' v hv k' st' => ?_⟩
    have kk : Keep p H H' := (My.Same.keep s3).trans k'
    simp only [List.mem_cons, List.not_mem_nil, or_false] at hv
    rcases hv with rfl | rfl | rfl | rfl | rfl | rfl | rfl | rfl | rfl
    · exact q H' _ .non kk st' rfl rfl
    · exact q H' _ (.bl true) kk st' rfl rfl
    · exact q H' _ (.bl false) kk st' rfl rfl
    · exact q H' _ (.int 0) kk st' rfl rfl
    · exact q H' _ (.int 1) kk st' rfl rfl
    · exact q H' _ (.str "") kk st' rfl rfl
    · exact q H' _ (.str "a") kk st' rfl rfl
    · exact q H' _ (.str "1") kk st' rfl rfl
    · exact q H' _ (.str "true") kk st' rfl rfl
end
end My
namespace My
open PySem L2 SX XT XS XE XD XL XZ
open C8 (pss_cut tCut cutS_slice pe_gc)
section
variable {P : Program} {w : World} {K : PySem.W.Frag} {mg : Str → Option Value} {base : Heap} {A : Ads}
theorem StL.ofK {H7 H : Hp} {a p : Addr} {ns : List Int} {x k : Int} (st7 : StL K H7 a p ns) (kk : Keep p H7 H) (hp : H p = some (.lst [.int x, .int k, .ref a])) (h0 : 0 ≤ k) : StL K H a p ns := by
  obtain ⟨x7, k7, h7, _, hs⟩ := st7
  exact ⟨x, k, hp, h0, sql_keep kk h7 hs⟩
/-- the law's draws and a store beside them -/
structure LI (P : Program) (w : World) (K : PySem.W.Frag) (A : Ads) (a p : Addr) (ns : List Int) (H7 H : Hp) (sa : Sa) (S : St) : Prop where
  st7 : StL K H7 a p ns
  k7 : Keep p H7 H
  st : StL K H a p ns
  sm : SM P w A H sa S
  fr : ∀ b, sa.own b → H7 b = none
variable {a p : Addr} {ns : List Int} {H7 H H' : Hp} {sa sa' : Sa} {S S' : St}
theorem LI.np (L : LI P w K A a p ns H7 H sa S) : ¬ sa.own p := fun z => by
  obtain ⟨x, k, h, _⟩ := L.st7
  rw [L.fr p z] at h
  cases h
theorem LI.hp (L : LI P w K A a p ns H7 H sa S) : ∃ xs, H p = some (.lst xs) := by
  obtain ⟨x, k, h, _⟩ := L.st
  exact ⟨_, h⟩
theorem LI.draw (L : LI P w K A a p ns H7 H sa S) (k : Keep p H H') (st : StL K H' a p ns) : LI P w K A a p ns H7 H' sa S := by
  obtain ⟨xs, hp⟩ := L.hp
  exact ⟨L.st7, L.k7.trans k, st, L.sm.keep k hp L.np, L.fr⟩
theorem LI.sv (L : LI P w K A a p ns H7 H sa S) (k : Keep p H H') : Sv H H' := by
  obtain ⟨xs, hp⟩ := L.hp
  exact Keep.sv k hp
theorem LI.same (L : LI P w K A a p ns H7 H sa S) (s : Same H H') : LI P w K A a p ns H7 H' sa S := L.draw (My.Same.keep s) (L.st.same s)
theorem LI.ev (L : LI P w K A a p ns H7 H sa S) (e : Ev sa sa' H H') (sm : SM P w A H' sa' S') : LI P w K A a p ns H7 H' sa' S' := by
  obtain ⟨x, k, hp, h0, _⟩ := L.st
  have kk : Keep p H7 H' := fun b u h n => e.fr _ _ (L.k7 _ _ h n) fun z => by rw [L.fr b z] at h; cases h
  refine ⟨L.st7, kk, L.st7.ofK kk (e.fr _ _ hp L.np) h0, sm, fun b z => ?_⟩
  rcases e.gw b z with q | q
  · exact L.fr b q
  · cases h : H7 b with
    | none => rfl
    | some u =>
      by_cases hb : b = p
      · rw [hb, hp] at q; cases q
      · rw [L.k7 _ _ h hb] at q; cases q

theorem LI.h7 (L : LI P w K A a p ns H7 H sa S) {D : Addr} (n : H D = none) : H7 D = none := by
  cases h : H7 D with
  | none => rfl
  | some u =>
    by_cases hb : D = p
    · obtain ⟨xs, hp⟩ := L.hp
      rw [hb, hp] at n; cases n
    · rw [L.k7 _ _ h hb] at n; cases n
theorem LI.lst (L : LI P w K A a p ns H7 H sa S) {D : Addr} {xs ys : List V} (hD : H D = some (.lst xs)) (h7 : H7 D = none) (nd : ¬ sa.own D) (hp : D ≠ p) : LI P w K A a p ns H7 (upd H D (.lst ys)) sa S ∧ Sv H (upd H D (.lst ys)) := by
  have sv : Sv H (upd H D (.lst ys)) := fun b u e n => by
    rw [upd_ne fun z => by rw [z, hD] at e; exact n _ (Option.some.inj e).symm]
    exact e
  have kk : Keep p H7 (upd H D (.lst ys)) := fun b u e n => by rw [upd_ne (ne_of_none e h7)]; exact L.k7 _ _ e n
  obtain ⟨x, k, h1, h0, _⟩ := L.st
  exact ⟨⟨L.st7, kk, L.st7.ofK kk (by rw [upd_ne hp.symm]; exact h1) h0, L.sm.keep keep_upd hD nd, L.fr⟩, sv⟩

/-- the law between two steps: draws at p, its rows at r, the store's thing 1 -/
structure LK (P : Program) (w : World) (K : PySem.W.Frag) (A : Ads) (a p : Addr) (ns : List Int) (H7 H : Hp) (sa : Sa) (S : St) (x m r : Addr) (us : List V) (es : List (Dv × Dv)) : Prop where
  I : LI P w K A a p ns H7 H sa S
  mt : Mt P w A H sa S 1 x m es
  rw : Rw A sa H r us es
  h7 : H7 r = none
  np : r ≠ p
variable {x x' m m' r : Addr} {us us' : List V} {es es' : List (Dv × Dv)}
theorem LK.draw (L : LK P w K A a p ns H7 H sa S x m r us es) (k : Keep p H H') (st : StL K H' a p ns) : LK P w K A a p ns H7 H' sa S x m r us es := by
  obtain ⟨xs, hp⟩ := L.I.hp
  exact ⟨L.I.draw k st, L.mt.keep k hp L.I.np, ⟨k _ _ L.rw.hr L.np, L.rw.ps.imp (Sv.vk (L.I.sv k)), L.rw.no⟩, L.h7, L.np⟩
theorem LK.same (L : LK P w K A a p ns H7 H sa S x m r us es) (s : Same H H') : LK P w K A a p ns H7 H' sa S x m r us es := L.draw (My.Same.keep s) (L.I.st.same s)
theorem LK.gw (L : LK P w K A a p ns H7 H sa S x m r us es) (g : Gw A sa sa' r H H') (mt : Mt P w A H' sa' S' 1 x' m' es') (rw' : Rw A sa' H' r us' es') : LK P w K A a p ns H7 H' sa' S' x' m' r us' es' := by
  obtain ⟨y, k, hp, h0, _⟩ := L.I.st
  have kk : Keep p H7 H' := fun b u h n => by
    by_cases br : b = r
    · rw [br, L.h7] at h; cases h
    · exact g.fr _ _ (L.I.k7 _ _ h n) (fun z => by rw [L.I.fr b z] at h; cases h) br
  have hp' := g.fr _ _ hp L.I.np L.np.symm
  refine ⟨⟨L.I.st7, kk, L.I.st7.ofK kk hp' h0, mt.sm, fun b z => ?_⟩, mt, rw', L.h7, L.np⟩
  rcases g.gw b z with q | q
  · exact L.I.fr b q
  · exact L.I.h7 q
end
end My
namespace My
open PySem L2 SX XT XS XE XD XL XZ
open C8 (pss_cut tCut cutS_slice pe_gc)
section
variable {P : Program} {w : World} {K : PySem.W.Frag} {mg : Str → Option Value} {base : Heap} {A : Ads}
theorem LK.aside {a p : Addr} {ns : List Int} {H7 H H' : Hp} {sa : Sa} {S : St} {x m r o : Addr} {us xs : List V} {es : List (Dv × Dv)} (L : LK P w K A a p ns H7 H sa S x m r us es) (k : Keep o H H') (ho : H o = some (.lst xs)) (h7 : H7 o = none) (no : ¬ sa.own o) (op : o ≠ p) (or_ : o ≠ r) : LK P w K A a p ns H7 H' sa S x m r us es := by
  obtain ⟨y, k0, hp, h0, _⟩ := L.I.st
  have kk : Keep p H7 H' := fun b u h n => k _ _ (L.I.k7 _ _ h n) (fun z => by rw [z, h7] at h; cases h)
  exact ⟨⟨L.I.st7, kk, L.I.st7.ofK kk (k _ _ hp op.symm) h0, L.I.sm.keep k ho no, L.I.fr⟩, L.mt.keep k ho no, ⟨k _ _ L.rw.hr or_.symm, L.rw.ps.imp (Sv.vk (Keep.sv k ho)), L.rw.no⟩, L.h7, L.np⟩
theorem putIn_nd {es ps : List (Dv × Dv)} (h : (es.map Prod.fst).Nodup) : ((putIn es ps).map Prod.fst).Nodup := by
  induction ps using My.snocRec with
  | nil => exact h
  | snoc ps p ih =>
    rw [putIn_snoc]
    exact putE_nd ih
def spLMerged (P : Program) (w : World) (K : PySem.W.Frag) (A : Ads) : Sp := fun vs H Q _ => ∃ (a p : Addr) (ns : List Int) (H7 : Hp) (sa : Sa) (S : St) (x m r : Addr) (us : List V) (es : List (Dv × Dv)), vs = [.ref sa.s, .ref r, .ref p] ∧ LK P w K A a p ns H7 H sa S x m r us es ∧ S.things.length < 49000 ∧
  ∀ H' sa' S' x' m' us' es', sa'.s = sa.s → LK P w K A a p ns H7 H' sa' S' x' m' r us' es' → S'.things.length ≤ S.things.length + 110 → Q (.bl true) H'
theorem ok_law_merged (L : Lib P K mg A) (D : Fd w L) : FnOk P w K mg base CX0 10 L.law_merged.f L.law_merged.fd ["store", "rows", "state"] (spLMerged P w K A) := by
  have G_law_draw : FnOk P w K mg base CX0 2 L.law_draw.f L.law_draw.fd ["state", "many"] (spDraw K) := ok_law_draw L
  have G_law_key : FnOk P w K mg base CX0 4 L.law_key.f L.law_key.fd ["state"] (spKey K A) := ok_law_key L
  have G_law_put : FnOk P w K mg base CX0 4 L.law_put.f L.law_put.fd ["rows", "key", "value"] (spLPut K A) := ok_law_put L
  have G_law_at : FnOk P w K mg base CX0 3 L.law_at.f L.law_at.fd ["rows", "key"] (spLAt K A) := ok_law_at L
  have G_law_try : FnOk P w K mg base CX0 9 L.law_try.f L.law_try.fd ["store", "deed", "name", "values"] (spLTry P w K A) := ok_law_try L D
  have G_law_pairs : FnOk P w K mg base CX0 3 L.law_pairs.f L.law_pairs.fd ["told", "rows"] (spLPs K A) := ok_law_pairs L
  have G_law_is : FnOk P w K mg base CX0 3 L.law_is.f L.law_is.fd ["told", "value"] (spLIs K A) := ok_law_is L
  have G_make_map : FnOk P w K mg base CX0 4 L.make_map.f L.make_map.fd ["store", "pairs"] (spMMp P w K A) := ok_make_map L
  have G_Table_pairs : FnOk P w K mg base CX0 1 L.Table_pairs.f L.Table_pairs.fd ["self"] (spMPairsT P w A) := ok_mpairsT L
  refine L.law_merged.F.ok sc_law_merged (fun vs H Q E h => ?_) (fun cdv A' outer s H vs Q E hr h => ?_)
  · obtain ⟨a, p, ns, H7, sa, S, x, m, r, us, es, rfl, _⟩ := h
    rfl
  · obtain ⟨a, p, ns, H7, sa, S, x, m, r, us, es, rfl, lk, hb, q⟩ := h
    refine ⟨_, (pss_cons (ps_set (i := 3) sc_law_merged.nd rfl (.inl rfl) (pe_lst pa_nil))
      (pss_cons (ps_for PassesOwn.never rfl (pi_range1 (by rfl) L.z_range (pa_cons (pe_call G_law_draw (hr.mono (by omega)) (by rfl) L.law_draw.g L.law_draw.F.kp L.law_draw.b .nil pass0 (pa_cons (pv 2) (pa_cons pe_int pa_nil))) pa_nil)) (pg_name (i := 4) sc_law_merged.nd rfl (.inl rfl))
        (pss_one (ps_expr (pe_call G_law_put (hr.mono (by omega)) (by rfl) L.law_put.g L.law_put.F.kp L.law_put.b .nil pass0 (pa_cons (pv 3) (pa_cons (pe_call G_law_key (hr.mono (by omega)) (by rfl) L.law_key.g L.law_key.F.kp L.law_key.b .nil pass0 (pa_cons (pv 2) pa_nil)) (pa_cons (pe_call G_law_draw (hr.mono (by omega)) (by rfl) L.law_draw.g L.law_draw.F.kp L.law_draw.b .nil pass0 (pa_cons (pv 2) (pa_cons pe_int pa_nil))) pa_nil)))))))
      (pss_cons (ps_set (i := 5) sc_law_merged.nd rfl (.inl rfl) (pe_call G_make_map (hr.mono (by omega)) (by rfl) L.make_map.g L.make_map.F.kp L.make_map.b .nil pass0 (pa_cons (pv 0) (pa_cons (pe_callTy call_list_of (by rfl) L.z_list (by decide +kernel) (pa_cons (pv 3) pa_nil)) pa_nil))))
      (pss_cons (ps_setLc (i := 6) (own := [("row", 8)]) (g := gName 8) (by rfl) sc_law_merged.nd rfl rfl (sw_true rfl rfl rfl (by decide +kernel)) (pi_list (pv 3)) (blkOk_by (own := [("row", 8)]) (N := ["store", "rows", "state", "others", "k", "ref", "fresh", "told", "row"]) (sc := defScope (top 139)) (by decide +kernel)) (fun _ _ _ _ _ => (pg_name (i := 8) sc_law_merged.nd rfl (.inl rfl))) (fun _ _ _ _ _ => pts_one (pt_cmpR op_lt (pe_call G_law_at (hr.mono (by omega)) (by rfl) L.law_at.g L.law_at.F.kp L.law_at.b .nil pass0 (pa_cons (pv 1) (pa_cons (pe_ix (show IxR _ (rIxT K) from by exact ix_tup) (pv 8) pe_int (fun _ _ => rfl)) pa_nil))) pe_int (nomark _))) (fun _ _ _ _ _ => (pv 8)))
      (pss_cons (ps_set (i := 7) sc_law_merged.nd rfl (.inl rfl) (pe_call G_law_try (hr.mono (by omega)) (by rfl) L.law_try.g L.law_try.F.kp L.law_try.b .nil pass0 (pa_cons (pv 0) (pa_cons pe_str (pa_cons pe_str (pa_cons (pe_lst (pa_cons (pv 5) pa_nil)) pa_nil))))))
      (pss_cons (ps_if (pt_not (pt_val (pe_call G_law_pairs (hr.mono (by omega)) (by rfl) L.law_pairs.g L.law_pairs.F.kp L.law_pairs.b .nil pass0 (pa_cons (pe_meth0 (pe_ix ix_list (pe_fld (pv 0) rfl) (pe_fld (pv 5) rfl) (fun _ _ => rfl)) L.c_Table.cl L.Table_pairs.m G_Table_pairs (hr.mono (by omega)) L.Table_pairs.b .nil pass0) (pa_cons (pv 3) pa_nil)))))
        (pss_one (ps_ret pe_bl))
        pss_nil)
      (pss_cons (ps_if (pt_cmpR op_gt (pe_op op_add (pe_callB call_len_seq (by rfl) L.z_len PySem.boot_len (pa_cons (pv 1) pa_nil)) (pe_callB call_len_seq (by rfl) L.z_len PySem.boot_len (pa_cons (pv 6) pa_nil))) pe_int (nomark _))
        (pss_one (ps_ret (pe_cmpR (op_eqD (units64 hr)) (pv 7) (pe_tup (pa_cons pe_str (pa_cons pe_str pa_nil))) (nomark _))))
        pss_nil)
      (pss_cons (ps_for PassesOwn.never rfl (pi_list (pv 3)) (pg_name (i := 8) sc_law_merged.nd rfl (.inl rfl))
        (pss_one (ps_expr (pe_call G_law_put (hr.mono (by omega)) (by rfl) L.law_put.g L.law_put.F.kp L.law_put.b .nil pass0 (pa_cons (pv 1) (pa_cons (pe_ix (show IxR _ (rIxT K) from by exact ix_tup) (pv 8) pe_int (fun _ _ => rfl)) (pa_cons (pe_ix ix_tup (pv 8) pe_int (fun _ _ => rfl)) pa_nil)))))))
      (pss_one (ps_ret (pe_call G_law_is (hr.mono (by omega)) (by rfl) L.law_is.g L.law_is.F.kp L.law_is.b .nil pass0 (pa_cons (pv 7) (pa_cons pe_non pa_nil))))))))))))), ?_⟩
    refine ⟨by show 0 ≤ sizeLine; decide, fun o no => ?_⟩
    have s1 := same_upd (o := .lst []) no
    have lk1 := lk.same s1
    have on : ¬ sa.own o := lk.mt.sm.fresh L no
    have o7 := lk.I.h7 no
    have op : o ≠ p := fun z => by
      obtain ⟨xs, hp⟩ := lk.I.hp
      rw [z, hp] at no; cases no
    have orr : o ≠ r := fun z => by rw [z, lk.rw.hr] at no; cases no
    refine ⟨_, rfl, a, p, ns, 5, rfl, lk1.I.st, by decide, by decide +kernel, fun H2 n5 k2 st2 hn0 hn5 => ?_⟩
    obtain ⟨c5, rfl⟩ : ∃ c : Nat, n5 = ((c : Nat) : Int) := ⟨n5.toNat, by omega⟩
    have lk2 := lk1.draw k2 st2
    refine ⟨_, rfl, by omega, by omega, for_range (n := c5) (fun i σ H' => ∃ (yk : Option V) (ous : List V) (oes : List (Dv × Dv)), σ = [some (.ref sa.s), some (.ref r), some (.ref p), some (.ref o), yk, none, none, none, none] ∧ LK P w K A a p ns H7 H' sa S x m r us es ∧ H' o = some (.lst ous) ∧ Prt A H' ous oes ∧ (oes.map Prod.fst).Nodup ∧ oes.length ≤ i) ⟨none, [], [], rfl, lk2, k2 _ _ upd_same op, trivial, by simp, Nat.le_refl 0⟩ ?_ ?_⟩
    · rintro i σ H3 hi ⟨yk, ous, oes, rfl, lk3, ho3, po3, nd3, le3⟩
      refine ⟨_, rfl, _, rfl, a, p, ns, rfl, lk3.I.st, fun H4 kv kd k4 st4 hkd hkv => ?_⟩
      have lk4 := lk3.draw k4 st4
      have v4 : Vk A H3 H4 := Sv.vk (lk3.I.sv k4)
      refine ⟨_, rfl, a, p, ns, 9, rfl, lk4.I.st, by decide, by decide +kernel, fun H5 n9 k5 st5 _ _ => ?_⟩
      have lk5 := lk4.draw k5 st5
      have v5 : Vk A H4 H5 := Sv.vk (lk4.I.sv k5)
      have ho5 := k5 _ _ (k4 _ _ ho3 op) op
      refine ⟨o, ous, oes, kv, .int n9, kd, .int n9, rfl, ho5, (po3.imp v4).imp v5, nd3, hkd, v5.v _ _ hkv, rfl, by omega, fun H6 ous6 k6 ho6 po6 => ?_⟩
      refine ⟨_, ous6, _, rfl, lk5.aside k6 ho5 o7 on op orr, ho6, po6, putE_nd nd3, ?_⟩
      have := (putE_len (es := oes) (k := kd) (v := .int n9)).1
      omega
    · rintro σ H3 ⟨yk, ous, oes, rfl, lk3, ho3, po3, nd3, le3⟩
      refine ⟨_, rfl, _, rfl, o, ous, rfl, .inl (SqL.of ho3), fun l nl => ?_⟩
      have s4 := same_upd (o := .lst ous) nl
      have lk4 := lk3.same s4
      refine ⟨sa, S, l, ous, oes, rfl, lk4.mt.sm, SqL.of upd_same, (po3.imp (Sv.vk (Same.sv s4))).prs, by omega, by omega, ?_⟩
      rw [putAll_id nd3]
      intro H5 rf a5 ev5 sm5 hrf
      have v5 : Vk A _ H5 := ev5.fr.vk L lk4.mt.sm
      have lt1 : 1 < S.things.length := (List.getElem?_eq_some_iff.mp lk4.mt.th).1
      obtain ⟨x5, m5, hx5, hm5, _⟩ := sm5.get (i := 1) (d := .table es) (by show (S.things ++ [_])[1]? = _; rw [List.getElem?_append_left lt1]; exact lk4.mt.th)
      obtain ⟨x6, m6, hx6, hm6, _⟩ := sm5.get (i := S.things.length) (d := .table oes) (by show (S.things ++ [_])[S.things.length]? = _; rw [List.getElem?_append_right (Nat.le_refl _), Nat.sub_self]; rfl)
      have mt5 : Mt P w A H5 a5 { S with things := S.things ++ [.table oes] } 1 x5 m5 es := ⟨sm5, hx5, hm5, by show (S.things ++ [_])[1]? = _; rw [List.getElem?_append_left lt1]; exact lk4.mt.th⟩
      have mt6 : Mt P w A H5 a5 { S with things := S.things ++ [.table oes] } S.things.length x6 m6 oes := ⟨sm5, hx6, hm6, by show (S.things ++ [_])[S.things.length]? = _; rw [List.getElem?_append_right (Nat.le_refl _), Nat.sub_self]; rfl⟩
      have lk5 := lk4.gw (Gw.ev ev5 v5) mt5 (lk4.rw.ev ev5 v5)
      have ho5 : H5 o = some (.lst ous) := ev5.fr _ _ (s4 _ _ ho3) on
      have po5 : Prt A H5 ous oes := (po3.imp (Sv.vk (Same.sv s4))).imp v5
      have ol := (po5.prs (K := K)).len
      have ul := (lk5.rw.ps.prs (K := K)).len
      obtain ⟨_, _, _, nd5, le5⟩ := mt5.at_
      refine ⟨_, rfl, o, rfl, ⟨_, SqL.of ho5⟩, fun F nF => ?_⟩
      refine lc_list (K := K) (a := o) (xs := ous) (fun i H' => Same H5 H' ∧ ∃ vs, H' F = some (.lst vs) ∧ vs.length = (fresh es (oes.take i)).length) ⟨same_upd nF, [], upd_same, rfl⟩ (fun i H' _ h => SqL.of (h.1 _ _ ho5)) ?_ ?_
      · rintro i v H6 hv ⟨s6, vs, e1, e2⟩
        obtain ⟨p1, qa, k, u, hp', hk, rfl, hq, hk', hu'⟩ := (po5.prs (K := K)).at hv
        have ht : oes.take (i + 1) = oes.take i ++ [p1] := by
          rw [List.take_add_one, hp']
          rfl
        have lv := fresh_take (es := es) (ps := oes) (i := i)
        have lf : (fresh es oes).length ≤ oes.length := List.length_filter_le _ _
        refine ⟨rfl, ?_⟩
        refine ⟨_, rfl, _, rfl, qa, _, _, _, rfl, rfl, sqt_same s6 hq, atI_nat (j := 0) rfl, r, us, es, k, p1.1, rfl, SqL.of (s6 _ _ lk5.rw.hr), (lk5.rw.ps.imp (Sv.vk (Same.sv s6))).prs, hk'.sv (Same.sv s6), by omega, fun z hf => ⟨_, _, rfl, rfl, _, rfl, ?_⟩⟩
        rw [ht, fresh_snoc]
        by_cases c : z < 0
        · have hn := (fst_val hf).mp c
          rw [hn]
          refine ifT (decide_eq_true c) ⟨_, rfl, vs, e1, Nat.lt_of_le_of_lt (m := 1000) (by omega) (by decide), fun b o eb => ?_, vs ++ [.ref qa], upd_same, by simp [e2]⟩
          rw [upd_ne (ne_of_none eb nF)]
          exact s6 _ _ eb
        · have hn : (valE es p1.1).isSome = true := by
            cases hh : valE es p1.1 with
            | none => exact absurd ((fst_val hf).mpr hh) c
            | some _ => rfl
          rw [hn]
          exact ifF (decide_eq_false c) ⟨s6, vs, e1, by rw [e2, if_pos rfl, List.append_nil]⟩
      · rintro H6 ⟨s6, vs, e1, e2⟩
        rw [ol, List.take_length] at e2
        have lk6 := lk5.same s6
        refine ⟨_, rfl, _, rfl, (by show 1 ≤ sizeLine; decide), fun l2 nl2 => ?_⟩
        have s7 := s6.trans (same_upd (o := .lst [.ref rf]) nl2)
        refine ⟨a5, _, x5, m5, es, l2, [.ref rf], .call (.ok (.merge S.things.length oes)), (by rw [ev5.s]; rfl), mt5.same s7, SqL.of upd_same, ⟨hrf.sv (Same.sv s7), trivial⟩, (by show (S.things ++ [_]).length < 50000; rw [List.length_append]; simp; omega), ⟨⟨x6, m6, mt6.same s7⟩, nofun, (fun n2 es2 e => by cases e; omega)⟩, ?_⟩
        have hres : (Cl.merge S.things.length oes).res es = if es.length + (fresh es oes).length ≤ 1000 then .val .non (putIn es oes) else .err "SizeError" "too large" := rfl
        rw [hres]
        by_cases c : es.length + (fresh es oes).length ≤ 1000
        · rw [if_pos c]
          intro H8 t ev8 vk8 mt8 ht8
          obtain ⟨m8, mt8⟩ := mt8
          obtain ⟨x9, m9, hx9, hm9, _⟩ := mt8.sm.get (i := S.things.length) (d := .table oes) (by show (List.set (S.things ++ [_]) 1 _)[S.things.length]? = _; rw [List.getElem?_set_ne (by omega), List.getElem?_append_right (Nat.le_refl _), Nat.sub_self]; rfl)
          have mt9 : Mt P w A H8 a5 (({ S with things := S.things ++ [.table oes] } : St).putT 1 (putIn es oes)) S.things.length x9 m9 oes := ⟨mt8.sm, hx9, hm9, by show (List.set (S.things ++ [_]) 1 _)[S.things.length]? = _; rw [List.getElem?_set_ne (by omega), List.getElem?_append_right (Nat.le_refl _), Nat.sub_self]; rfl⟩
          obtain ⟨ds8, hs8⟩ := mt8.sm.s_
          refine ⟨_, rfl, ?_⟩
          have hrf8 : Has A H8 (.ref rf) (.obj S.things.length) := vk8.v _ _ (hrf.sv (Same.sv s7))
          obtain ⟨rr, dr, er, hR⟩ := hrf8
          cases er
          obtain ⟨dx9, hx⟩ := mt9.tx
          have hs9 : H8 sa.s = some (.ins A.Store ds8 (stF a5.t a5.o a5.l (({ S with things := S.things ++ [.table oes] } : St).putT 1 (putIn es oes)).taken)) := by
            rw [show sa.s = a5.s from by rw [ev5.s]]
            exact hs8
          refine ⟨sa.s, A.Store, ds8, _, _, rfl, hs9, L.c_Store.cl, L.n_Store_things, st_things _ _ _ _, _, rfl, rf, A.Ref, dr, _, _, rfl, hR, L.c_Ref.cl, L.n_Ref_number, lk_hit, a5.t, _, _, .ref x9, rfl, rfl, SqL.of mt9.sm.t_, atI_nat (by rw [List.getElem?_map, hx9]; rfl), x9, dx9, _, rfl, hx, tab_none (by decide +kernel), a5, _, S.things.length, x9, m9, oes, rfl, mt9, fun H9 lp usp s9 nlp hlp prp => ?_⟩
          have ho4 := s4 _ _ ho3
          have on5 : ¬ a5.own o := ev5.nin ho4 on
          have ho8 := ev8.fr _ _ (s7 _ _ ho5) on5
          have ho9 := s9 _ _ ho8
          have v59 : Vk A H5 H9 := ((Sv.vk (Same.sv s7)).trans vk8).trans (Sv.vk (Same.sv s9))
          have po9 := po5.imp v59
          refine ⟨_, rfl, lp, o, usp, ous, oes, rfl, hlp, prp, SqL.of ho9, po9.prs, by omega, ?_⟩
          have rw5 := lk5.rw
          have rw9 : Rw A a5 H9 r us es := ((rw5.same s7).ev ev8 vk8).same s9
          refine ⟨_, rfl, iteF ?_⟩
          have hF9 := s9 _ _ (ev8.fr _ _ (same_upd nl2 _ _ e1) (mt5.sm.fresh L nF))
          refine ⟨_, rfl, r, us, rfl, .inl (SqL.of rw9.hr), _, rfl, F, vs, rfl, .inl (SqL.of hF9), _, _, rfl, rfl, _, _, rfl, rfl, _, rfl, ifF (decide_eq_false (by omega)) ?_⟩
          have rw8 := (rw5.same s7).ev ev8 vk8
          have vl : vs.length = (fresh es oes).length := e2
          refine ⟨_, rfl, o, rfl, ⟨_, SqL.of ho9⟩, for_list (K := K) (a := o) (xs := ous) (fun i σ H' => ∃ y8 : Option V, σ = [some (.ref sa.s), some (.ref r), some (.ref p), some (.ref o), yk, some (.ref rf), some (.ref F), some (.ref t), y8] ∧ Keep r H9 H' ∧ ∃ us', H' r = some (.lst us') ∧ Prt A H' us' (putIn es (oes.take i))) ⟨none, rfl, (fun b u e n => e), us, rw9.hr, rw9.ps⟩ (fun i σ H' _ h => by obtain ⟨_, _, h, _⟩ := h; exact SqL.of (h _ _ ho9 orr)) ?_ ?_⟩
          · rintro i v σ H10 hv ⟨y8, rfl, kp, us', hr', ps'⟩
            have vk10 : Vk A H9 H10 := Sv.vk (Keep.sv kp rw9.hr)
            obtain ⟨p1, qa, k, u, hp', hk, rfl, hq, hk', hu'⟩ := ((po9.imp vk10).prs (K := K)).at hv
            have ht : oes.take (i + 1) = oes.take i ++ [p1] := by
              rw [List.take_add_one, hp']
              rfl
            have nd3 : ((oes.take i).map Prod.fst).Nodup := by
              rw [List.map_take]
              exact nd3.sublist (List.take_sublist _ _)
            have ln := putIn_len (es := es) nd3
            have lf : (fresh es (oes.take i)).length ≤ (oes.take i).length := List.length_filter_le _ _
            rw [List.length_take] at lf
            refine ⟨_, rfl, _, rfl, qa, _, _, _, rfl, rfl, hq, atI_nat (j := 0) rfl, _, rfl, qa, _, _, _, rfl, rfl, hq, atI_nat (j := 1) rfl, r, us', _, k, u, p1.1, p1.2, rfl, hr', ps', putIn_nd nd5, hk, hk', hu', by omega, fun H11 us'' k' hr'' ps'' => ?_⟩
            refine ⟨_, rfl, kp.trans k', us'', hr'', ?_⟩
            rw [ht, putIn_snoc]
            exact ps''
          · rintro σ H10 ⟨y8, rfl, kp, us', hr', ps'⟩
            rw [ol, List.take_length] at ps'
            refine ⟨_, rfl, t, .non, .non, .non, rfl, (ht8.imp (Sv.vk (Same.sv s9))).keep rw9.hr kp, rfl, ?_⟩
            rw [decide_eq_true rfl]
            exact q H10 a5 _ x5 m8 us' _ ev5.s ((lk5.same s7).gw (Gw.trans rw8.hr (Gw.ev ev8 vk8) (Gw.trans rw9.hr (Gw.same s9) (Gw.keep kp rw9.hr))) ((mt8.same s9).keep kp rw9.hr rw9.no) ⟨hr', ps', rw9.no⟩) (by rw [putT_len]; show (S.things ++ [_]).length ≤ _; rw [List.length_append]; simp)
        · rw [if_neg c]
          refine ⟨siz_ok, fun H8 t s8 ht8 => ?_⟩
          have s78 := s7.trans s8
          have mt9 := mt6.same s78
          obtain ⟨ds8, hs8⟩ := mt9.sm.s_
          have hrf8 : Has A H8 (.ref rf) (.obj S.things.length) := hrf.sv (Same.sv s78)
          obtain ⟨rr, dr, er, hR⟩ := hrf8
          cases er
          obtain ⟨dx9, hx⟩ := mt9.tx
          have hs9 : H8 sa.s = some (.ins A.Store ds8 (stF a5.t a5.o a5.l ({ S with things := S.things ++ [.table oes] } : St).taken)) := by
            rw [show sa.s = a5.s from by rw [ev5.s]]
            exact hs8
          refine ⟨_, rfl, sa.s, A.Store, ds8, _, _, rfl, hs9, L.c_Store.cl, L.n_Store_things, st_things _ _ _ _, _, rfl, rf, A.Ref, dr, _, _, rfl, hR, L.c_Ref.cl, L.n_Ref_number, lk_hit, a5.t, _, _, .ref x6, rfl, rfl, SqL.of mt9.sm.t_, atI_nat (by rw [List.getElem?_map, hx6]; rfl), x6, dx9, _, rfl, hx, tab_none (by decide +kernel), a5, _, S.things.length, x6, m6, oes, rfl, mt9, fun H9 lp usp s9 nlp hlp prp => ?_⟩
          have s59 := s78.trans s9
          have ho9 := s59 _ _ ho5
          have po9 := po5.imp (Sv.vk (Same.sv s59))
          refine ⟨_, rfl, lp, o, usp, ous, oes, rfl, hlp, prp, SqL.of ho9, po9.prs, by omega, ?_⟩
          have rw9 := lk5.rw.same s59
          refine ⟨_, rfl, iteF ?_⟩
          have hF9 : H9 F = some (.lst vs) := s9 _ _ (s8 _ _ (same_upd nl2 _ _ e1))
          have vl : vs.length = (fresh es oes).length := e2
          refine ⟨_, rfl, r, us, rfl, .inl (SqL.of rw9.hr), _, rfl, F, vs, rfl, .inl (SqL.of hF9), _, _, rfl, rfl, _, _, rfl, rfl, _, rfl, ifT (decide_eq_true (by omega)) ?_⟩
          exact ⟨_, rfl, (by show 2 ≤ sizeLine; decide), err_eq (ht8.imp (Sv.vk (Same.sv s9))) fun H10 s10 => q H10 a5 _ x5 m5 us es ev5.s (lk5.same (s59.trans s10)) (by show (S.things ++ [_]).length ≤ _; rw [List.length_append]; simp)⟩
end
end My
namespace My
open PySem L2 SX XT XS XE XD XL XZ
open C8 (pss_cut tCut cutS_slice pe_gc)
section
variable {P : Program} {w : World} {K : PySem.W.Frag} {mg : Str → Option Value} {base : Heap} {A : Ads}
def spLListed (P : Program) (w : World) (A : Ads) : Sp := fun vs H Q _ => ∃ (a : Sa) (S : St) (x m r : Addr) (us : List V) (es : List (Dv × Dv)), vs = [.ref a.s, .ref r] ∧ Mt P w A H a S 1 x m es ∧ Rw A a H r us es ∧ es.length ≤ 100 ∧ S.things.length < 49000 ∧ RQ P w A a S r H Q
theorem Mt.app {H : Hp} {a : Sa} {S : St} {n : Nat} {es : List (Dv × Dv)} {xs : List Th} (sm : SM P w A H a { S with things := S.things ++ xs }) (th : S.things[n]? = some (.table es)) : ∃ x m, Mt P w A H a { S with things := S.things ++ xs } n x m es := by
  have h : ({ S with things := S.things ++ xs } : St).things[n]? = some (.table es) := by
    show (S.things ++ xs)[n]? = _
    rw [List.getElem?_append_left (List.getElem?_eq_some_iff.mp th).1]; exact th
  obtain ⟨x, m, hx, hm, _⟩ := sm.get h
  exact ⟨x, m, sm, hx, hm, h⟩
def Zl (T : List Th) (es : List (Dv × Dv)) : List Th := T ++ (Th.parts (es.map Prod.fst) :: Th.parts (es.map Prod.snd) :: (kinsP es ++ [Th.parts (ids (T.length + 2) es.length)]))
theorem zl_at (T : List Th) (es : List (Dv × Dv)) (k : Nat) : (Zl T es)[T.length + k]? = (Th.parts (es.map Prod.fst) :: Th.parts (es.map Prod.snd) :: (kinsP es ++ [Th.parts (ids (T.length + 2) es.length)]))[k]? := by
  unfold Zl
  rw [List.getElem?_append_right (Nat.le_add_right _ _), Nat.add_sub_cancel_left]
theorem kinsP_len {es : List (Dv × Dv)} : (kinsP es).length = es.length := by simp [kinsP]
theorem zl_k {T : List Th} {es : List (Dv × Dv)} {k : Nat} {p : Dv × Dv} (h : es[k]? = some p) : (Zl T es)[T.length + (2 + k)]? = some (.parts [p.1, p.2]) := by
  have hk := (List.getElem?_eq_some_iff.mp h).1
  rw [zl_at, show 2 + k = k + 1 + 1 from by omega, List.getElem?_cons_succ, List.getElem?_cons_succ, List.getElem?_append_left (by rw [kinsP_len]; exact hk)]
  unfold kinsP
  rw [List.getElem?_map, h]
  rfl
theorem zl_2 {T : List Th} {es : List (Dv × Dv)} : (Zl T es)[T.length + (2 + es.length)]? = some (Th.parts (ids (T.length + 2) es.length)) := by
  rw [zl_at, show 2 + es.length = es.length + 1 + 1 from by omega, List.getElem?_cons_succ, List.getElem?_cons_succ, List.getElem?_append_right (by rw [kinsP_len]; omega), kinsP_len, Nat.sub_self]
  rfl
theorem zl_eq (T : List Th) (es : List (Dv × Dv)) : T ++ [Th.parts (es.map Prod.fst)] ++ [Th.parts (es.map Prod.snd)] ++ kinsP es ++ [Th.parts (ids (T ++ [Th.parts (es.map Prod.fst)] ++ [Th.parts (es.map Prod.snd)]).length es.length)] = Zl T es := by
  unfold Zl
  rw [show (T ++ [Th.parts (es.map Prod.fst)] ++ [Th.parts (es.map Prod.snd)]).length = T.length + 2 by simp]
  simp only [List.append_assoc, List.cons_append, List.nil_append]
theorem ids_at {n k j : Nat} (h : j < k) : (ids n k)[j]? = some (.obj (n + j)) := by
  unfold ids
  rw [List.getElem?_map, List.getElem?_range h]
  rfl
theorem ok_law_listed (L : Lib P K mg A) (D : Fd w L) : FnOk P w K mg base CX0 10 L.law_listed.f L.law_listed.fd ["store", "rows"] (spLListed P w A) := by
  have G_law_try : FnOk P w K mg base CX0 9 L.law_try.f L.law_try.fd ["store", "deed", "name", "values"] (spLTry P w K A) := ok_law_try L D
  have G_law_same : FnOk P w K mg base CX0 2 L.law_same.f L.law_same.fd ["x", "y"] (spS2 A) := ok_law_same L
  refine L.law_listed.F.ok sc_law_listed (fun vs H Q E h => ?_) (fun cdv A' outer s H vs Q E hr h => ?_)
  · obtain ⟨a, S, x, m, r, us, es, rfl, _⟩ := h
    rfl
  · obtain ⟨a, S, x, m, r, us, es, rfl, mt, rw0, hl, hb, q⟩ := h
    obtain ⟨ents, T, hE, nd, le⟩ := mt.at_
    have ul : us.length = es.length := (rw0.ps.prs (K := K)).len
    refine ⟨_, (pss_cons (ps_set (i := 2) sc_law_listed.nd rfl (.inl rfl) (pe_call G_law_try (hr.mono (by omega)) (by rfl) L.law_try.g L.law_try.F.kp L.law_try.b .nil pass0 (pa_cons (pv 0) (pa_cons pe_str (pa_cons pe_str (pa_cons (pe_lst pa_nil) pa_nil))))))
      (pss_cons (ps_if (PW.pt (pw_or (pt_cmpR op_ne (pe_ix ix_tup (pv 2) pe_int (fun _ _ => rfl)) pe_str (nomark _)) (pw_or1 (pt_not (pt_val (pe_callB call_isi (by rfl) L.z_isinstance (by decide +kernel) (pa_cons (pe_ix ix_tup (pv 2) pe_int (fun _ _ => rfl)) (pa_cons (pe_gc (v := .ref A.Ref) (by rfl) ⟨_, L.c_Ref.g, rfl⟩) pa_nil))))))))
        (pss_one (ps_ret pe_bl))
        pss_nil)
      (pss_cons (ps_set (i := 3) sc_law_listed.nd rfl (.inl rfl) (pe_call G_law_try (hr.mono (by omega)) (by rfl) L.law_try.g L.law_try.F.kp L.law_try.b .nil pass0 (pa_cons (pv 0) (pa_cons pe_str (pa_cons pe_str (pa_cons (pe_lst pa_nil) pa_nil))))))
      (pss_cons (ps_set (i := 4) sc_law_listed.nd rfl (.inl rfl) (pe_call G_law_try (hr.mono (by omega)) (by rfl) L.law_try.g L.law_try.F.kp L.law_try.b .nil pass0 (pa_cons (pv 0) (pa_cons pe_str (pa_cons pe_str (pa_cons (pe_lst pa_nil) pa_nil))))))
      (pss_cons (ps_set (i := 5) sc_law_listed.nd rfl (.inl rfl) (pe_fld (pe_ix ix_list (pe_fld (pv 0) rfl) (pe_fld (pe_ix ix_tup (pv 2) pe_int (fun _ _ => rfl)) rfl) (fun _ _ => rfl)) rfl))
      (pss_cons (ps_set (i := 6) sc_law_listed.nd rfl (.inl rfl) (pe_fld (pe_ix ix_list (pe_fld (pv 0) rfl) (pe_fld (pe_ix ix_tup (pv 3) pe_int (fun _ _ => rfl)) rfl) (fun _ _ => rfl)) rfl))
      (pss_cons (ps_set (i := 7) sc_law_listed.nd rfl (.inl rfl) (pe_fld (pe_ix ix_list (pe_fld (pv 0) rfl) (pe_fld (pe_ix ix_tup (pv 4) pe_int (fun _ _ => rfl)) rfl) (fun _ _ => rfl)) rfl))
      (pss_cons (ps_if (PW.pt (pw_or (pt_cmpR op_ne (pe_callB call_len_seq (by rfl) L.z_len PySem.boot_len (pa_cons (pv 5) pa_nil)) (pe_callB call_len_seq (by rfl) L.z_len PySem.boot_len (pa_cons (pv 1) pa_nil)) (nomark _)) (pw_or (pt_cmpR op_ne (pe_callB call_len_seq (by rfl) L.z_len PySem.boot_len (pa_cons (pv 6) pa_nil)) (pe_callB call_len_seq (by rfl) L.z_len PySem.boot_len (pa_cons (pv 1) pa_nil)) (nomark _)) (pw_or1 (pt_cmpR op_ne (pe_callB call_len_seq (by rfl) L.z_len PySem.boot_len (pa_cons (pv 7) pa_nil)) (pe_callB call_len_seq (by rfl) L.z_len PySem.boot_len (pa_cons (pv 1) pa_nil)) (nomark _))))))
        (pss_one (ps_ret pe_bl))
        pss_nil)
      (pss_cons (ps_if (pt_cmpR op_ne (pe_fld (pe_ix ix_tup (pv 4) pe_int (fun _ _ => rfl)) rfl) (pe_op op_add (pe_op op_add (pe_fld (pe_ix ix_tup (pv 3) pe_int (fun _ _ => rfl)) rfl) (pe_callB call_len_seq (by rfl) L.z_len PySem.boot_len (pa_cons (pv 1) pa_nil))) pe_int) (nomark _))
        (pss_one (ps_ret pe_bl))
        pss_nil)
      (pss_cons (ps_for PassesOwn.never rfl (pi_range1 (by rfl) L.z_range (pa_cons (pe_callB call_len_seq (by rfl) L.z_len PySem.boot_len (pa_cons (pv 1) pa_nil)) pa_nil)) (pg_name (i := 8) sc_law_listed.nd rfl (.inl rfl))
        (pss_cons (ps_set (i := 9) sc_law_listed.nd rfl (.inl rfl) (pe_fld (pe_ix ix_list (pe_fld (pv 0) rfl) (pe_fld (pe_ix ix_list (pv 7) (pv 8) (fun _ _ => rfl)) rfl) (fun _ _ => rfl)) rfl))
      (pss_cons (ps_if (PW.pt (pw_or (pt_cmpR op_ne (pe_fld (pe_ix ix_list (pv 7) (pv 8) (fun _ _ => rfl)) rfl) (pe_op op_add (pe_op op_add (pe_fld (pe_ix ix_tup (pv 3) pe_int (fun _ _ => rfl)) rfl) pe_int) (pv 8)) (nomark _)) (pw_or1 (pt_cmpR op_ne (pe_callB call_len_seq (by rfl) L.z_len PySem.boot_len (pa_cons (pv 9) pa_nil)) pe_int (nomark _)))))
        (pss_one (ps_ret pe_bl))
        pss_nil)
      (pss_cons (ps_if (PW.pt (pw_or (pt_not (pt_val (pe_call G_law_same (hr.mono (by omega)) (by rfl) L.law_same.g L.law_same.F.kp L.law_same.b .nil pass0 (pa_cons (pe_ix ix_list (pv 5) (pv 8) (fun _ _ => rfl)) (pa_cons (pe_ix ix_tup (pe_ix ix_list (pv 1) (pv 8) (fun _ _ => rfl)) pe_int (fun _ _ => rfl)) pa_nil))))) (pw_or1 (pt_not (pt_val (pe_call G_law_same (hr.mono (by omega)) (by rfl) L.law_same.g L.law_same.F.kp L.law_same.b .nil pass0 (pa_cons (pe_ix ix_list (pv 6) (pv 8) (fun _ _ => rfl)) (pa_cons (pe_ix ix_tup (pe_ix ix_list (pv 1) (pv 8) (fun _ _ => rfl)) pe_int (fun _ _ => rfl)) pa_nil))))))))
        (pss_one (ps_ret pe_bl))
        pss_nil)
      (pss_one (ps_if (PW.pt (pw_or (pt_not (pt_val (pe_call G_law_same (hr.mono (by omega)) (by rfl) L.law_same.g L.law_same.F.kp L.law_same.b .nil pass0 (pa_cons (pe_ix ix_list (pv 9) pe_int (fun _ _ => rfl)) (pa_cons (pe_ix ix_tup (pe_ix ix_list (pv 1) (pv 8) (fun _ _ => rfl)) pe_int (fun _ _ => rfl)) pa_nil))))) (pw_or1 (pt_not (pt_val (pe_call G_law_same (hr.mono (by omega)) (by rfl) L.law_same.g L.law_same.F.kp L.law_same.b .nil pass0 (pa_cons (pe_ix ix_list (pv 9) pe_int (fun _ _ => rfl)) (pa_cons (pe_ix ix_tup (pe_ix ix_list (pv 1) (pv 8) (fun _ _ => rfl)) pe_int (fun _ _ => rfl)) pa_nil))))))))
        (pss_one (ps_ret pe_bl))
        pss_nil))))))
      (pss_one (ps_ret pe_bl)))))))))))), ?_⟩
    refine ⟨_, rfl, (by show 0 ≤ sizeLine; decide), fun l nl => ?_⟩
    have s1 := same_upd (o := .lst []) nl
    refine ⟨a, S, x, m, es, l, [], .call (.ok .keys), rfl, mt.same s1, SqL.of upd_same, trivial, by omega, ⟨trivial, nofun, nofun⟩, fun H2 t2 a2 ev2 sm2 ht2 => ?_⟩
    obtain ⟨x2, m2, mt2⟩ := Mt.app sm2 mt.th
    obtain ⟨v2, hT2, b2, d2, rfl, hb2⟩ := ht2
    have rw2 := (rw0.same s1).ev ev2 (ev2.fr.vk L (mt.sm.same s1))
    have hv2 : Has A H2 (.ref b2) (.obj S.things.length) := ⟨b2, d2, rfl, hb2⟩
    refine ⟨_, rfl, t2, _, _, _, rfl, rfl, SqT.of hT2, atI_nat (j := 0) rfl, rfl, _, rfl, ifF (by decide +kernel) ?_⟩
    refine ⟨_, rfl, t2, _, _, _, rfl, rfl, SqT.of hT2, atI_nat (j := 1) rfl, .ref b2, .ref A.Ref, _, .ref A.Ref, _, rfl, .own _, has_ty L hv2, kit_R L _, _, rfl, iteF ?_⟩
    refine ⟨_, rfl, (by show 0 ≤ sizeLine; decide), fun l3 nl3 => ?_⟩
    have s3 := same_upd (o := .lst []) nl3
    refine ⟨a2, _, x2, m2, es, l3, [], .call (.ok .values), (by rw [ev2.s]; rfl), mt2.same s3, SqL.of upd_same, trivial, (by show (S.things ++ [_]).length < 50000; rw [List.length_append]; simp; omega), ⟨trivial, nofun, nofun⟩, fun H4 t4 a4 ev4 sm4 ht4 => ?_⟩
    obtain ⟨x4, m4, mt4⟩ := Mt.app sm4 mt2.th
    obtain ⟨v4, hT4, b4, d4, rfl, hb4⟩ := ht4
    have v34 := ev4.fr.vk L (mt2.sm.same s3)
    have rw4 := (rw2.same s3).ev ev4 v34
    have v24 : Vk A H2 H4 := (Sv.vk (Same.sv s3)).trans v34
    refine ⟨_, rfl, (by show 0 ≤ sizeLine; decide), fun l5 nl5 => ?_⟩
    have s5 := same_upd (o := .lst []) nl5
    refine ⟨a4, _, x4, m4, es, l5, [], .call (.ok .items), (by rw [ev4.s, ev2.s]; rfl), mt4.same s5, SqL.of upd_same, trivial, (by show ((S.things ++ [_]) ++ [_]).length < 50000; rw [List.length_append, List.length_append]; simp; omega), ⟨trivial, nofun, nofun⟩, fun H6 t6 a6 ev6 sm6 ht6 => ?_⟩
    obtain ⟨v6, hT6, b6, d6, rfl, hb6⟩ := ht6
    have v56 := ev6.fr.vk L (mt4.sm.same s5)
    have rw6 := (rw4.same s5).ev ev6 v56
    have v46 : Vk A H4 H6 := (Sv.vk (Same.sv s5)).trans v56
    have v26 := v24.trans v46
    obtain ⟨n4, hn4, hb4⟩ : ∃ n4 : Nat, n4 = S.things.length + 1 ∧ H4 b4 = some (.ins A.Ref d4 [("number", .int ((n4 : Nat) : Int))]) := ⟨(S.things ++ [Th.parts (es.map Prod.fst)]).length, by rw [List.length_append]; rfl, hb4⟩
    obtain ⟨n6, hn6, hb6⟩ : ∃ n6 : Nat, n6 = S.things.length + (2 + es.length) ∧ H6 b6 = some (.ins A.Ref d6 [("number", .int ((n6 : Nat) : Int))]) := ⟨(S.things ++ [Th.parts (es.map Prod.fst)] ++ [Th.parts (es.map Prod.snd)]).length + es.length, by rw [List.length_append, List.length_append, List.length_singleton, List.length_singleton]; omega, hb6⟩
    have sm : SM P w A H6 a6 { S with things := Zl S.things es } := by
      rw [← zl_eq]
      exact sm6
    clear sm6
    have hT2' := v26.t _ _ hT2
    have hT4' := v46.t _ _ hT4
    obtain ⟨_, d2', e2', hb2'⟩ := v26.v _ _ hv2
    cases e2'
    obtain ⟨_, d4', e4', hb4'⟩ := v46.v (.ref b4) (.obj n4) ⟨b4, d4, rfl, hb4⟩
    cases e4'
    obtain ⟨dsS, hsS⟩ := sm.s_
    have hsS' : H6 a.s = some (.ins A.Store dsS (stF a6.t a6.o a6.l S.taken)) := by
      rw [show a.s = a6.s from by rw [ev6.s, ev4.s, ev2.s]]
      exact hsS
    obtain ⟨x0, m0, hx0, _, ⟨dx0, us0, g0, g0', hs0⟩⟩ := sm.get (i := S.things.length) (d := Th.parts (es.map Prod.fst)) (zl_at S.things es 0)
    obtain ⟨x9, m9, hx9, _, ⟨dx9, us9, g9, g9', hs9⟩⟩ := sm.get (i := n4) (d := Th.parts (es.map Prod.snd)) (by rw [hn4]; exact zl_at S.things es 1)
    obtain ⟨x8, m8, hx8, _, ⟨dx8, us8, g8, g8', hs8⟩⟩ := sm.get (i := n6) (d := Th.parts (ids (S.things.length + 2) es.length)) (by rw [hn6]; exact zl_2)
    have l0 := hs0.len
    have l9 := hs9.len
    have l8 := hs8.len
    rw [List.length_map] at l0 l9
    rw [ids_len] at l8
    refine ⟨_, rfl, a.s, A.Store, dsS, _, _, rfl, hsS', L.c_Store.cl, L.n_Store_things, st_things _ _ _ _, _, rfl, t2, _, _, _, rfl, rfl, SqT.of hT2', atI_nat (j := 1) rfl, b2, A.Ref, d2', _, _, rfl, hb2', L.c_Ref.cl, L.n_Ref_number, lk_hit, a6.t, _, _, .ref x0, rfl, rfl, SqL.of sm.t_, atI_nat (by rw [List.getElem?_map, hx0]; rfl), x0, A.Parts, dx0, _, _, rfl, g0, L.c_Parts.cl, L.n_Parts_held, lk_hit, ?_⟩
    refine ⟨_, rfl, a.s, A.Store, dsS, _, _, rfl, hsS', L.c_Store.cl, L.n_Store_things, st_things _ _ _ _, _, rfl, t4, _, _, _, rfl, rfl, SqT.of hT4', atI_nat (j := 1) rfl, b4, A.Ref, d4', _, _, rfl, hb4', L.c_Ref.cl, L.n_Ref_number, lk_hit, a6.t, _, _, .ref x9, rfl, rfl, SqL.of sm.t_, atI_nat (by rw [List.getElem?_map, hx9]; rfl), x9, A.Parts, dx9, _, _, rfl, g9, L.c_Parts.cl, L.n_Parts_held, lk_hit, ?_⟩
    refine ⟨_, rfl, a.s, A.Store, dsS, _, _, rfl, hsS', L.c_Store.cl, L.n_Store_things, st_things _ _ _ _, _, rfl, t6, _, _, _, rfl, rfl, SqT.of hT6, atI_nat (j := 1) rfl, b6, A.Ref, d6, _, _, rfl, hb6, L.c_Ref.cl, L.n_Ref_number, lk_hit, a6.t, _, _, .ref x8, rfl, rfl, SqL.of sm.t_, atI_nat (by rw [List.getElem?_map, hx8]; rfl), x8, A.Parts, dx8, _, _, rfl, g8, L.c_Parts.cl, L.n_Parts_held, lk_hit, ?_⟩
    have ul6 := ul
    refine ⟨_, rfl, m0, us0, rfl, .inl (SqL.of g0'), _, rfl, r, us, rfl, .inl (SqL.of rw6.hr), rfl, _, rfl, ifF (by rw [l0, ul]; simp) ?_⟩
    refine ⟨_, rfl, m9, us9, rfl, .inl (SqL.of g9'), _, rfl, r, us, rfl, .inl (SqL.of rw6.hr), rfl, _, rfl, ifF (by rw [l9, ul]; simp) ?_⟩
    refine ⟨_, rfl, m8, us8, rfl, .inl (SqL.of g8'), _, rfl, r, us, rfl, .inl (SqL.of rw6.hr), rfl, _, rfl, ifF (by rw [l8, ul]; simp) ?_⟩
    refine ⟨_, rfl, t6, _, _, _, rfl, rfl, SqT.of hT6, atI_nat (j := 1) rfl, b6, A.Ref, d6, _, _, rfl, hb6, L.c_Ref.cl, L.n_Ref_number, lk_hit, _, rfl, t4, _, _, _, rfl, rfl, SqT.of hT4', atI_nat (j := 1) rfl, b4, A.Ref, d4', _, _, rfl, hb4', L.c_Ref.cl, L.n_Ref_number, lk_hit, _, rfl, r, us, rfl, .inl (SqL.of rw6.hr), _, _, rfl, rfl, _, _, rfl, rfl, rfl, _, rfl, ifF (by rw [hn4, hn6, ul]; simp; omega) ?_⟩
    refine ⟨_, rfl, r, us, rfl, .inl (SqL.of rw6.hr), _, rfl, by omega, by omega, for_range (n := us.length) (fun i σ H' => ∃ y8 y9 : Option V, σ = [some (.ref a.s), some (.ref r), some (.ref t2), some (.ref t4), some (.ref t6), some (.ref m0), some (.ref m9), some (.ref m8), y8, y9] ∧ H' = H6) ⟨none, none, rfl, rfl⟩ ?_ ?_⟩
    · rintro i σ H' hi ⟨y8, y9, rfl, rfl⟩
      rw [Int.zero_add]
      have hie : i < es.length := by omega
      obtain ⟨p, hp⟩ : ∃ p, es[i]? = some p := ⟨_, List.getElem?_eq_getElem hie⟩
      obtain ⟨v3, hv3, b3, d3, rfl, hb3⟩ := hs8.at (ids_at (n := S.things.length + 2) hie)
      obtain ⟨x3, m3, hx3, _, ⟨dx3, us3, g3, g3', hs3⟩⟩ := sm.get (i := S.things.length + 2 + i) (d := Th.parts [p.1, p.2]) (by rw [Nat.add_assoc]; exact zl_k hp)
      have l3' := hs3.len
      obtain ⟨w1, hw1, hw1'⟩ := hs3.at (i := 0) rfl
      obtain ⟨w2, hw2, hw2'⟩ := hs3.at (i := 1) rfl
      obtain ⟨v0, hv0, hv0'⟩ := hs0.at (i := i) (d := p.1) (by rw [List.getElem?_map, hp]; rfl)
      obtain ⟨v9, hv9, hv9'⟩ := hs9.at (i := i) (d := p.2) (by rw [List.getElem?_map, hp]; rfl)
      obtain ⟨z, hz⟩ : ∃ z, us[i]? = some z := ⟨_, List.getElem?_eq_getElem hi⟩
      obtain ⟨p2, qa, k, u, hp2, _, rfl, hq, hk3, hu3⟩ := (rw6.ps.prs (K := K)).at hz
      rw [hp] at hp2
      cases hp2
      refine ⟨_, rfl, a.s, A.Store, dsS, _, _, rfl, hsS', L.c_Store.cl, L.n_Store_things, st_things _ _ _ _, _, rfl, _, rfl, m8, _, _, _, rfl, rfl, SqL.of g8', atI_nat hv3, b3, A.Ref, d3, _, _, rfl, hb3, L.c_Ref.cl, L.n_Ref_number, lk_hit, a6.t, _, _, .ref x3, rfl, rfl, SqL.of sm.t_, atI_nat (by rw [List.getElem?_map, hx3]; rfl), x3, A.Parts, dx3, _, _, rfl, g3, L.c_Parts.cl, L.n_Parts_held, lk_hit, ?_⟩
      refine ⟨_, rfl, _, rfl, m8, _, _, _, rfl, rfl, SqL.of g8', atI_nat hv3, b3, A.Ref, d3, _, _, rfl, hb3, L.c_Ref.cl, L.n_Ref_number, lk_hit, _, rfl, t4, _, _, _, rfl, rfl, SqT.of hT4', atI_nat (j := 1) rfl, b4, A.Ref, d4', _, _, rfl, hb4', L.c_Ref.cl, L.n_Ref_number, lk_hit, _, _, rfl, rfl, _, rfl, _, _, rfl, rfl, rfl, _, rfl, ifF (by rw [hn4]; simp; omega) ?_⟩
      refine ⟨_, rfl, m3, us3, rfl, .inl (SqL.of g3'), rfl, _, rfl, ifF (by rw [l3']; rfl) ?_⟩
      refine ⟨_, rfl, _, rfl, m0, _, _, _, rfl, rfl, SqL.of g0', atI_nat hv0, _, rfl, _, rfl, r, _, _, _, rfl, rfl, SqL.of rw6.hr, atI_nat hz, qa, _, _, _, rfl, rfl, hq, atI_nat (j := 0) rfl, v0, k, p.1, p.1, rfl, hv0', hk3, _, rfl, ?_⟩
      rw [decide_eq_true rfl]
      refine iteF ?_
      refine ⟨_, rfl, _, rfl, m9, _, _, _, rfl, rfl, SqL.of g9', atI_nat hv9, _, rfl, _, rfl, r, _, _, _, rfl, rfl, SqL.of rw6.hr, atI_nat hz, qa, _, _, _, rfl, rfl, hq, atI_nat (j := 1) rfl, v9, u, p.2, p.2, rfl, hv9', hu3, _, rfl, ?_⟩
      rw [decide_eq_true rfl]
      refine iteF ?_
      refine ⟨_, rfl, m3, _, _, _, rfl, rfl, SqL.of g3', atI_nat (j := 0) hw1, _, rfl, _, rfl, r, _, _, _, rfl, rfl, SqL.of rw6.hr, atI_nat hz, qa, _, _, _, rfl, rfl, hq, atI_nat (j := 0) rfl, w1, k, p.1, p.1, rfl, hw1', hk3, _, rfl, ?_⟩
      rw [decide_eq_true rfl]
      refine iteF ?_
      refine ⟨_, rfl, m3, _, _, _, rfl, rfl, SqL.of g3', atI_nat (j := 1) hw2, _, rfl, _, rfl, r, _, _, _, rfl, rfl, SqL.of rw6.hr, atI_nat hz, qa, _, _, _, rfl, rfl, hq, atI_nat (j := 1) rfl, w2, u, p.2, p.2, rfl, hw2', hu3, _, rfl, ?_⟩
      rw [decide_eq_true rfl]
      exact iteF ⟨_, _, rfl, rfl⟩
    · rintro σ H' ⟨y8, y9, rfl, rfl⟩
      have hg : Gw A a a6 r H H' := Gw.trans (s1 _ _ rw0.hr) (Gw.same s1) (Gw.trans rw2.hr (Gw.ev ev2 (ev2.fr.vk L (mt.sm.same s1))) (Gw.trans (s3 _ _ rw2.hr) (Gw.same s3) (Gw.trans rw4.hr (Gw.ev ev4 v34) (Gw.trans (s5 _ _ rw4.hr) (Gw.same s5) (Gw.ev ev6 v56)))))
      obtain ⟨xz, mz, mtz⟩ := Mt.app (xs := (Th.parts (es.map Prod.fst) :: .parts (es.map Prod.snd) :: (kinsP es ++ [.parts (ids (S.things.length + 2) es.length)]))) sm mt.th
      exact q H' a6 _ xz mz us es hg mtz (by show (Zl S.things es).length ≤ _; rw [← zl_eq]; simp [kinsP_len]; omega) rw6
end
end My
namespace My
open PySem L2 SX XT XS XE XD XL XZ
open C8 (pss_cut tCut cutS_slice pe_gc)
section
variable {P : Program} {w : World} {K : PySem.W.Frag} {mg : Str → Option Value} {base : Heap} {A : Ads}
theorem wKey : ("key" : Str) ≠ "list" ∧ ("key" : Str) ≠ "map" ∧ ("key" : Str) ≠ "instance" ∧ ("key" : Str) ≠ "class" ∧ ("key" : Str) ≠ "null" ∧ ("key" : Str) ≠ "boolean" ∧ ("key" : Str) ≠ "integer" ∧ ("key" : Str) ≠ "text" ∧ ("key" : Str) ≠ "function" := by decide +kernel
theorem kindT_key (S : St) : ∀ d : Dv, ("key" : Str) ≠ kindD S d
  | .non => wKey.2.2.2.2.1
  | .bl _ => wKey.2.2.2.2.2.1
  | .int _ => wKey.2.2.2.2.2.2.1
  | .str _ => wKey.2.2.2.2.2.2.2.1
  | .bi _ => wKey.2.2.2.2.2.2.2.2
  | .obj n => by
    show ("key" : Str) ≠ match S.things[n]? with | some d => kindT d | none => "function"
    cases S.things[n]? with
    | none => exact wKey.2.2.2.2.2.2.2.2
    | some t =>
      cases t with
      | parts _ => exact wKey.1
      | table _ => exact wKey.2.1
      | inst _ _ => exact wKey.2.2.1
      | kin _ _ _ => exact wKey.2.2.2.1
theorem fits_nokey (S : St) {d : Dv} (h : keyD d = false) : fits S d "key" = false := by
  unfold fits
  rw [h, decide_eq_false (kindT_key S d), decide_eq_false (by decide +kernel : ¬ ("key" : Str) = "any")]
  simp
theorem LK.two {a p : Addr} {ns : List Int} {H7 H : Hp} {sa : Sa} {S : St} {x m r : Addr} {us : List V} {es : List (Dv × Dv)} (L : LK P w K A a p ns H7 H sa S x m r us es) : 1 < S.things.length := (List.getElem?_eq_some_iff.mp L.mt.th).1
theorem LK.rq {a p : Addr} {ns : List Int} {H7 H : Hp} {sa : Sa} {S : St} {x m r : Addr} {us : List V} {es : List (Dv × Dv)} {Q : VK} (L : LK P w K A a p ns H7 H sa S x m r us es) (q : ∀ H' sa' S' x' m' us' es', sa'.s = sa.s → LK P w K A a p ns H7 H' sa' S' x' m' r us' es' → S'.things.length ≤ S.things.length + 110 → Q (.bl true) H') : RQ P w A sa S r H Q :=
  fun H' sa' S' x' m' us' es' g mt le rw' => q H' sa' S' x' m' us' es' g.s (L.gw g mt rw') le
theorem ok_law_step (L : Lib P K mg A) (D : Fd w L) : FnOk P w K mg base CX0 11 L.law_step.f L.law_step.fd ["store", "rows", "state"] (spLMerged P w K A) := by
  have G_law_draw : FnOk P w K mg base CX0 2 L.law_draw.f L.law_draw.fd ["state", "many"] (spDraw K) := ok_law_draw L
  have G_law_key : FnOk P w K mg base CX0 4 L.law_key.f L.law_key.fd ["state"] (spKey K A) := ok_law_key L
  have G_law_pick : FnOk P w K mg base CX0 3 L.law_pick.f L.law_pick.fd ["state", "row"] (spPick K) := ok_law_pick L
  have G_law_set : FnOk P w K mg base CX0 10 L.law_set.f L.law_set.fd ["store", "rows", "key", "value"] (spLSet P w A) := ok_law_set L D
  have G_law_taken : FnOk P w K mg base CX0 10 L.law_taken.f L.law_taken.fd ["store", "rows", "key"] (spLTaken P w A) := ok_law_taken L D
  have G_law_read : FnOk P w K mg base CX0 10 L.law_read.f L.law_read.fd ["store", "rows", "key", "value"] (spLRead P w A) := ok_law_read L D
  have G_law_listed : FnOk P w K mg base CX0 10 L.law_listed.f L.law_listed.fd ["store", "rows"] (spLListed P w A) := ok_law_listed L D
  have G_law_merged : FnOk P w K mg base CX0 10 L.law_merged.f L.law_merged.fd ["store", "rows", "state"] (spLMerged P w K A) := ok_law_merged L D
  have G_law_try : FnOk P w K mg base CX0 9 L.law_try.f L.law_try.fd ["store", "deed", "name", "values"] (spLTry P w K A) := ok_law_try L D
  have G_law_pairs : FnOk P w K mg base CX0 3 L.law_pairs.f L.law_pairs.fd ["told", "rows"] (spLPs K A) := ok_law_pairs L
  have G_law_is : FnOk P w K mg base CX0 3 L.law_is.f L.law_is.fd ["told", "value"] (spLIs K A) := ok_law_is L
  have G_Table_pairs : FnOk P w K mg base CX0 1 L.Table_pairs.f L.Table_pairs.fd ["self"] (spMPairsT P w A) := ok_mpairsT L
  have G_Ref_init : FnOk P w K mg base CX0 1 L.Ref_init.f L.Ref_init.fd ["self", "number"] (spI1 A.Ref "number") := ok_Ref_init L
  have G_Builtin_init : FnOk P w K mg base CX0 1 L.Builtin_init.f L.Builtin_init.fd ["self", "name"] (spI1 A.Builtin "name") := ok_Builtin_init L
  refine L.law_step.F.ok sc_law_step (fun vs H Q E h => ?_) (fun cdv A' outer s H vs Q E hr h => ?_)
  · obtain ⟨a, p, ns, H7, sa, S, x, m, r, us, es, rfl, _⟩ := h
    rfl
  · obtain ⟨a, p, ns, H7, sa, S, x, m, r, us, es, rfl, lk, hb, q⟩ := h
    refine ⟨_, (pss_cons (ps_set (i := 3) sc_law_step.nd rfl (.inl rfl) (pe_call G_law_draw (hr.mono (by omega)) (by rfl) L.law_draw.g L.law_draw.F.kp L.law_draw.b .nil pass0 (pa_cons (pv 2) (pa_cons pe_int pa_nil))))
      (pss_cons (ps_set (i := 4) sc_law_step.nd rfl (.inl rfl) (pe_call G_law_key (hr.mono (by omega)) (by rfl) L.law_key.g L.law_key.F.kp L.law_key.b .nil pass0 (pa_cons (pv 2) pa_nil)))
      (pss_cons (ps_set (i := 5) sc_law_step.nd rfl (.inl rfl) (pe_call G_law_pick (hr.mono (by omega)) (by rfl) L.law_pick.g L.law_pick.F.kp L.law_pick.b .nil pass0 (pa_cons (pv 2) (pa_cons (pe_tup (pa_cons pe_non (pa_cons pe_int (pa_cons pe_str (pa_cons (pe_make L.Ref_init.m G_Ref_init (hr.mono (by omega)) (by rfl) L.c_Ref.g L.Ref_init.b .nil pass0 (pa_cons pe_int pa_nil)) (pa_cons pe_bl pa_nil)))))) pa_nil))))
      (pss_cons (ps_if (pt_cmpR op_lt (pv 3) pe_int (nomark _))
        (pss_one (ps_ret (pe_call G_law_set (hr.mono (by omega)) (by rfl) L.law_set.g L.law_set.F.kp L.law_set.b .nil pass0 (pa_cons (pv 0) (pa_cons (pv 1) (pa_cons (pv 4) (pa_cons (pv 5) pa_nil)))))))
        pss_nil)
      (pss_cons (ps_if (pt_cmpR op_eq (pv 3) pe_int (nomark _))
        (pss_one (ps_ret (pe_call G_law_taken (hr.mono (by omega)) (by rfl) L.law_taken.g L.law_taken.F.kp L.law_taken.b .nil pass0 (pa_cons (pv 0) (pa_cons (pv 1) (pa_cons (pv 4) pa_nil))))))
        pss_nil)
      (pss_cons (ps_if (pt_cmpR op_eq (pv 3) pe_int (nomark _))
        (pss_one (ps_ret (pe_call G_law_read (hr.mono (by omega)) (by rfl) L.law_read.g L.law_read.F.kp L.law_read.b .nil pass0 (pa_cons (pv 0) (pa_cons (pv 1) (pa_cons (pv 4) (pa_cons (pv 5) pa_nil)))))))
        pss_nil)
      (pss_cons (ps_if (pt_cmpR op_eq (pv 3) pe_int (nomark _))
        (pss_one (ps_ret (pe_or (pe_cmpR op_gt (pe_callB call_len_seq (by rfl) L.z_len PySem.boot_len (pa_cons (pv 1) pa_nil)) pe_int (nomark _)) (pe_one (pe_call G_law_listed (hr.mono (by omega)) (by rfl) L.law_listed.g L.law_listed.F.kp L.law_listed.b .nil pass0 (pa_cons (pv 0) (pa_cons (pv 1) pa_nil)))))))
        pss_nil)
      (pss_cons (ps_if (pt_cmpR op_eq (pv 3) pe_int (nomark _))
        (pss_one (ps_ret (pe_call G_law_merged (hr.mono (by omega)) (by rfl) L.law_merged.g L.law_merged.F.kp L.law_merged.b .nil pass0 (pa_cons (pv 0) (pa_cons (pv 1) (pa_cons (pv 2) pa_nil))))))
        pss_nil)
      (pss_cons (ps_if (pt_cmpR op_eq (pv 3) pe_int (nomark _))
        (pss_cons (ps_set (i := 6) sc_law_step.nd rfl (.inl rfl) (pe_call G_law_try (hr.mono (by omega)) (by rfl) L.law_try.g L.law_try.F.kp L.law_try.b .nil pass0 (pa_cons (pv 0) (pa_cons pe_str (pa_cons pe_str (pa_cons (pe_lst pa_nil) pa_nil))))))
      (pss_one (ps_ret (pe_and (pe_call G_law_is (hr.mono (by omega)) (by rfl) L.law_is.g L.law_is.F.kp L.law_is.b .nil pass0 (pa_cons (pv 6) (pa_cons (pe_make L.Ref_init.m G_Ref_init (hr.mono (by omega)) (by rfl) L.c_Ref.g L.Ref_init.b .nil pass0 (pa_cons (pe_op op_sub (pe_callB call_len_seq (by rfl) L.z_len PySem.boot_len (pa_cons (pe_fld (pv 0) rfl) pa_nil)) pe_int) pa_nil)) pa_nil))) (pe_one (pe_call G_law_pairs (hr.mono (by omega)) (by rfl) L.law_pairs.g L.law_pairs.F.kp L.law_pairs.b .nil pass0 (pa_cons (pe_meth0 (pe_ix ix_list (pe_fld (pv 0) rfl) (pe_un un_neg pe_int) (fun _ _ => rfl)) L.c_Table.cl L.Table_pairs.m G_Table_pairs (hr.mono (by omega)) L.Table_pairs.b .nil pass0) (pa_cons (pv 1) pa_nil))))))))
        pss_nil)
      (pss_cons (ps_if (pt_cmpR op_eq (pv 3) pe_int (nomark _))
        (pss_cons (ps_set (i := 7) sc_law_step.nd rfl (.inl rfl) (pe_call G_law_pick (hr.mono (by omega)) (by rfl) L.law_pick.g L.law_pick.F.kp L.law_pick.b .nil pass0 (pa_cons (pv 2) (pa_cons (pe_tup (pa_cons (pe_make L.Ref_init.m G_Ref_init (hr.mono (by omega)) (by rfl) L.c_Ref.g L.Ref_init.b .nil pass0 (pa_cons pe_int pa_nil)) (pa_cons (pe_make L.Ref_init.m G_Ref_init (hr.mono (by omega)) (by rfl) L.c_Ref.g L.Ref_init.b .nil pass0 (pa_cons pe_int pa_nil)) (pa_cons (pe_make L.Builtin_init.m G_Builtin_init (hr.mono (by omega)) (by rfl) L.c_Builtin.g L.Builtin_init.b .nil pass0 (pa_cons pe_str pa_nil)) pa_nil)))) pa_nil))))
      (pss_cons (ps_set (i := 8) sc_law_step.nd rfl (.inl rfl) (pe_tup (pa_cons pe_str (pa_cons pe_str pa_nil))))
      (pss_cons (ps_if (PW.pt (pw_or (pt_cmpR (op_neD (units64 hr)) (pe_call G_law_try (hr.mono (by omega)) (by rfl) L.law_try.g L.law_try.F.kp L.law_try.b .nil pass0 (pa_cons (pv 0) (pa_cons pe_str (pa_cons pe_str (pa_cons (pe_lst (pa_cons (pv 7) pa_nil)) pa_nil))))) (pv 8) (nomark _)) (pw_or1 (pt_cmpR (op_neD (units64 hr)) (pe_call G_law_try (hr.mono (by omega)) (by rfl) L.law_try.g L.law_try.F.kp L.law_try.b .nil pass0 (pa_cons (pv 0) (pa_cons pe_str (pa_cons pe_str (pa_cons (pe_lst (pa_cons (pv 7) (pa_cons pe_int pa_nil))) pa_nil))))) (pv 8) (nomark _)))))
        (pss_one (ps_ret pe_bl))
        pss_nil)
      (pss_cons (ps_set (i := 9) sc_law_step.nd rfl (.inl rfl) (pe_call G_law_pick (hr.mono (by omega)) (by rfl) L.law_pick.g L.law_pick.F.kp L.law_pick.b .nil pass0 (pa_cons (pv 2) (pa_cons (pe_tup (pa_cons pe_str (pa_cons pe_str (pa_cons pe_str pa_nil)))) pa_nil))))
      (pss_one (ps_ret (pe_cmpR (op_eqD (units64 hr)) (pe_call G_law_try (hr.mono (by omega)) (by rfl) L.law_try.g L.law_try.F.kp L.law_try.b .nil pass0 (pa_cons (pv 0) (pa_cons pe_str (pa_cons (pv 9) (pa_cons (pe_lst (pa_cons (pe_ifExp (pt_cmpR op_ne (pv 9) pe_str (nomark _)) (pv 7) pe_int) pa_nil)) pa_nil))))) (pe_tup (pa_cons pe_str (pa_cons pe_str pa_nil))) (nomark _))))))))
        pss_nil)
      (pss_cons (ps_if (pt_cmpR op_gt (pe_call G_law_draw (hr.mono (by omega)) (by rfl) L.law_draw.g L.law_draw.F.kp L.law_draw.b .nil pass0 (pa_cons (pv 2) (pa_cons pe_int pa_nil))) pe_int (nomark _))
        (pss_one (ps_ret (pe_call G_law_is (hr.mono (by omega)) (by rfl) L.law_is.g L.law_is.F.kp L.law_is.b .nil pass0 (pa_cons (pe_call G_law_try (hr.mono (by omega)) (by rfl) L.law_try.g L.law_try.F.kp L.law_try.b .nil pass0 (pa_cons (pv 0) (pa_cons pe_str (pa_cons pe_str (pa_cons (pe_lst pa_nil) pa_nil))))) (pa_cons (pe_callB call_len_seq (by rfl) L.z_len PySem.boot_len (pa_cons (pv 1) pa_nil)) pa_nil)))))
        pss_nil)
      (pss_cons (ps_expr (pe_bm0 PySem.F.plainAttrs_list PySem.F.slot_list_clear PySem.F.type_list_clear mt_clear (pv 1)))
      (pss_one (ps_ret (pe_call G_law_is (hr.mono (by omega)) (by rfl) L.law_is.g L.law_is.F.kp L.law_is.b .nil pass0 (pa_cons (pe_call G_law_try (hr.mono (by omega)) (by rfl) L.law_try.g L.law_try.F.kp L.law_try.b .nil pass0 (pa_cons (pv 0) (pa_cons pe_str (pa_cons pe_str (pa_cons (pe_lst pa_nil) pa_nil))))) (pa_cons pe_non pa_nil))))))))))))))))), ?_⟩
    refine ⟨_, rfl, a, p, ns, 11, rfl, lk.I.st, by decide, by decide +kernel, fun H1 kd k1 st1 h0 h1 => ?_⟩
    have lk1 := lk.draw k1 st1
    refine ⟨_, rfl, a, p, ns, rfl, lk1.I.st, fun H2 kv key k2 st2 hkd hkv => ?_⟩
    have lk2 := lk1.draw k2 st2
    refine ⟨_, rfl, ?_⟩
    intro y dy ny ndy nyd
    refine ⟨y, dy, _, rfl, upd_same, fun H3 k3 hR => ⟨rfl, ?_⟩⟩
    have s3 : Same H2 H3 := Same.made ny ndy k3
    refine ⟨(by show 5 ≤ sizeLine; decide), fun T nT => ?_⟩
    have s4 : Same H2 (upd H3 T (.tup [.non, .int 5, .str "x", .ref y, .bl false])) := s3.trans (same_upd nT)
    have hy4 : Has A (upd H3 T (.tup [.non, .int 5, .str "x", .ref y, .bl false])) (.ref y) (.obj 0) := ⟨y, dy, rfl, (same_upd nT) _ _ hR⟩
    have lk4 := lk2.same s4
    refine ⟨a, p, T, ns, _, rfl, lk4.I.st, SqT.of upd_same, by show 0 < 5; decide, by show 5 ≤ 100; decide, fun H5 vv hvv k5 st5 => ?_⟩
    have lk5 := lk4.draw k5 st5
    have v25 : Vk A H2 H5 := (Sv.vk (Same.sv s4)).trans (Sv.vk (lk4.I.sv k5))
    have hk5 : Has A H5 kv key := v25.v _ _ hkv
    obtain ⟨vd, hvd, hov⟩ : ∃ vd, Has A H5 vv vd ∧ okV S vd := by
      have two := lk.two
      simp only [List.mem_cons, List.not_mem_nil, or_false] at hvv
      rcases hvv with rfl | rfl | rfl | rfl | rfl
      · exact ⟨.non, rfl, trivial⟩
      · exact ⟨.int 5, rfl, trivial⟩
      · exact ⟨.str "x", rfl, trivial⟩
      · exact ⟨.obj 0, hy4.sv (lk4.I.sv k5), by show 0 < _; omega⟩
      · exact ⟨.bl false, rfl, trivial⟩
    have rq := lk5.rq q
    clear lk lk1 lk2 lk4 k1 k2 k3 s3 s4 hy4 k5 hR ny ndy nyd nT st1 st2 st5 v25 hkv hvv
    refine ⟨_, rfl, _, _, rfl, rfl, _, rfl, ite2 (fun h4 => ?_) fun h4 => ?_⟩
    · exact ⟨_, rfl, _, rfl, _, rfl, _, rfl, sa, S, x, m, r, us, es, kv, vv, key, vd, rfl, lk5.mt, lk5.rw, hkd, hk5, hvd, by omega, rq⟩
    refine ⟨_, rfl, rfl, _, rfl, ite2 (fun h5 => ?_) fun h5 => ?_⟩
    · exact ⟨_, rfl, _, rfl, _, rfl, sa, S, x, m, r, us, es, kv, key, rfl, lk5.mt, lk5.rw, hkd, hk5, by omega, rq⟩
    refine ⟨_, rfl, rfl, _, rfl, ite2 (fun h6 => ?_) fun h6 => ?_⟩
    · exact ⟨_, rfl, _, rfl, _, rfl, _, rfl, sa, S, x, m, r, us, es, kv, vv, key, vd, rfl, lk5.mt, lk5.rw, hkd, hk5, hvd, hov, by omega, rq⟩
    refine ⟨_, rfl, rfl, _, rfl, ite2 (fun h7 => ?_) fun h7 => ?_⟩
    · have ul : us.length = es.length := (lk5.rw.ps.prs (K := K)).len
      refine ⟨_, rfl, r, us, rfl, .inl (SqL.of lk5.rw.hr), _, _, rfl, rfl, _, rfl, ite2 (fun hc => ?_) fun hc => ?_⟩
      · exact rq H5 sa S x m us es (Gw.same fun _ _ e => e) lk5.mt (by omega) lk5.rw
      · have := of_decide_eq_false (Bool.eq_false_iff.mpr hc)
        exact ⟨_, rfl, _, rfl, sa, S, x, m, r, us, es, rfl, lk5.mt, lk5.rw, by omega, hb, rq⟩
    refine ⟨_, rfl, rfl, _, rfl, ite2 (fun h8 => ?_) fun h8 => ?_⟩
    · exact ⟨_, rfl, _, rfl, _, rfl, a, p, ns, H7, sa, S, x, m, r, us, es, rfl, lk5, hb, q⟩
    refine ⟨_, rfl, rfl, _, rfl, ite2 (fun h9 => ?_) fun h9 => ?_⟩
    · refine ⟨_, rfl, (by show 0 ≤ sizeLine; decide), fun l nl => ?_⟩
      have s6 := same_upd (o := .lst []) nl
      have lk6 := lk5.same s6
      refine ⟨sa, S, x, m, es, l, [], .call (.ok .copy), rfl, lk6.mt, SqL.of upd_same, trivial, by omega, ⟨trivial, nofun, nofun⟩, fun H7' t a7 ev7 sm7 ht7 => ?_⟩
      have v7 := ev7.fr.vk L lk6.mt.sm
      have rw7 := lk6.rw.ev ev7 v7
      obtain ⟨x7, m7, mt7⟩ := Mt.app sm7 lk6.mt.th
      have hN : (S.things ++ [Th.table es])[S.things.length]? = some (.table es) := by rw [List.getElem?_append_right (Nat.le_refl _), Nat.sub_self]; rfl
      obtain ⟨x8, m8, hx8, hm8, _⟩ := sm7.get (i := S.things.length) (d := .table es) hN
      have mt8 : Mt P w A H7' a7 { S with things := S.things ++ [.table es] } S.things.length x8 m8 es := ⟨sm7, hx8, hm8, hN⟩
      obtain ⟨ds7, hs7⟩ := sm7.s_
      have hs7' : H7' sa.s = some (.ins A.Store ds7 (stF a7.t a7.o a7.l S.taken)) := by
        rw [show sa.s = a7.s from by rw [ev7.s]]
        exact hs7
      refine ⟨_, rfl, _, rfl, sa.s, A.Store, ds7, _, _, rfl, hs7', L.c_Store.cl, L.n_Store_things, st_things _ _ _ _, a7.t, _, rfl, .inl (SqL.of sm7.t_), _, _, rfl, rfl, ?_⟩
      have hlen : (a7.X.map V.ref).length = S.things.length + 1 := by rw [List.length_map, sm7.lx]; show (S.things ++ [_]).length = _; rw [List.length_append]; rfl
      rw [hlen]
      intro y dy ny ndy nyd
      refine ⟨y, dy, _, rfl, upd_same, fun H8 k8 hR => ⟨rfl, ?_⟩⟩
      have s8 : Same H7' H8 := Same.made ny ndy k8
      have hy : Has A H8 (.ref y) (.obj S.things.length) := ⟨y, dy, rfl, by
        rw [hR]
        have e : (((S.things.length + 1 : Nat) : Int) - 1) = ((S.things.length : Nat) : Int) := by omega
        show some (HO.ins A.Ref dy [("number", .int (((S.things.length + 1 : Nat) : Int) - 1))]) = _
        rw [e]⟩
      refine ⟨t, .ref y, .obj S.things.length, .obj S.things.length, rfl, ht7.imp (Sv.vk (Same.sv s8)), hy, ?_⟩
      rw [decide_eq_true rfl]
      refine ⟨_, rfl, iteT ?_⟩
      obtain ⟨dx8, hx8'⟩ := (mt8.same s8).tx
      have hs8 := s8 _ _ hs7'
      refine ⟨_, rfl, sa.s, A.Store, ds7, _, _, rfl, hs8, L.c_Store.cl, L.n_Store_things, st_things _ _ _ _, _, rfl, a7.t, _, _, .ref x8, rfl, rfl, SqL.of (sm7.same s8).t_, ?_, x8, dx8, _, rfl, hx8', tab_none (by decide +kernel), a7, _, S.things.length, x8, m8, es, rfl, mt8.same s8, fun H9 lp usp s9 nlp hlp prp => ?_⟩
      · have hx : a7.X.length = S.things.length + 1 := by have := hlen; rwa [List.length_map] at this
        have h9 : (List.map V.ref a7.X)[S.things.length]? = some (.ref x8) := by rw [List.getElem?_map, hx8]; rfl
        have e : ixN (List.map V.ref a7.X).length (-1) = some S.things.length := by
          rw [List.length_map, hx]
          unfold ixN
          rw [if_neg (by decide), if_pos (by omega)]
          congr 1
          omega
        unfold atI
        rw [e]
        exact h9
      have s89 := s8.trans s9
      have rw9 := rw7.same s89
      have v9 := (lk6.rw.ps.imp v7).imp (Sv.vk (Same.sv s89))
      refine ⟨_, rfl, lp, r, usp, us, es, rfl, hlp, prp, SqL.of rw9.hr, rw9.ps.prs, ?_, ?_⟩
      · obtain ⟨_, _, _, _, le⟩ := mt8.at_
        omega
      exact rq _ a7 _ x7 m7 us es (Gw.trans (s6 _ _ lk5.rw.hr) (Gw.same s6) (Gw.trans rw7.hr (Gw.ev ev7 v7) (Gw.same s89))) (mt7.same s89) (by show (S.things ++ [_]).length ≤ _; rw [List.length_append]; simp) rw9
    refine ⟨_, rfl, rfl, _, rfl, ite2 (fun h10 => ?_) fun h10 => ?_⟩
    · refine ⟨_, rfl, ?_⟩
      intro y dy ny ndy nyd
      refine ⟨y, dy, _, rfl, upd_same, fun H6 k6 hR => ⟨rfl, ?_⟩⟩
      have s6 : Same H5 H6 := Same.made ny ndy k6
      intro z dz nz ndz nzd
      refine ⟨z, dz, _, rfl, upd_same, fun H7' k7 hR2 => ⟨rfl, ?_⟩⟩
      have s7 : Same H6 H7' := Same.made nz ndz k7
      intro o1 do1 no1 ndo1 nod1
      refine ⟨o1, do1, _, rfl, upd_same, fun H8 k8 hB => ⟨rfl, ?_⟩⟩
      have s8 : Same H7' H8 := Same.made no1 ndo1 k8
      refine ⟨(by show 3 ≤ sizeLine; decide), fun T nT => ?_⟩
      have s9 := same_upd (o := .tup [.ref y, .ref z, .ref o1]) nT
      have s59 := s6.trans (s7.trans (s8.trans s9))
      have lk9 := lk5.same s59
      refine ⟨a, p, T, ns, _, rfl, lk9.I.st, SqT.of upd_same, by show 0 < 3; decide, by show 3 ≤ 100; decide, fun H10 bv hbv k10 st10 => ?_⟩
      have lk10 := lk9.draw k10 st10
      have two := lk5.two
      obtain ⟨bd, hbd, hok, hnk⟩ : ∃ bd, Has A H10 bv bd ∧ okV S bd ∧ keyD bd = false := by
        simp only [List.mem_cons, List.not_mem_nil, or_false] at hbv
        have sv := lk9.I.sv k10
        rcases hbv with rfl | rfl | rfl
        · exact ⟨.obj 0, Has.sv sv (d := .obj 0) ⟨y, dy, rfl, s9 _ _ (s8 _ _ (s7 _ _ hR))⟩, (by show 0 < _; omega), rfl⟩
        · exact ⟨.obj 1, Has.sv sv (d := .obj 1) ⟨z, dz, rfl, s9 _ _ (s8 _ _ hR2)⟩, two, rfl⟩
        · exact ⟨.bi "print", Has.sv sv (d := .bi "print") ⟨o1, do1, rfl, s9 _ _ hB⟩, trivial, rfl⟩
      have rq10 : RQ P w A sa S r H10 Q := lk10.rq q
      clear rq lk5 lk9 k10 s59 s6 s7 s8 s9 nT hbv hR hR2 hB
      refine ⟨(by show 2 ≤ sizeLine; decide), fun T2 nT2 => ?_⟩
      have s11 := same_upd (o := .tup [.str "KindError", .str kMsg]) nT2
      have gT2 : upd H10 T2 (.tup [.str "KindError", .str kMsg]) T2 = some (.tup [.str "KindError", .str kMsg]) := upd_same
      have lk11 := lk10.same s11
      have hb11 : Has A (upd H10 T2 (.tup [.str "KindError", .str kMsg])) bv bd := hbd.sv (Same.sv s11)
      have rq11 : RQ P w A sa S r (upd H10 T2 (.tup [.str "KindError", .str kMsg])) Q := lk11.rq q
      refine ⟨_, rfl, _, rfl, (by show 1 ≤ sizeLine; decide), fun l nl => ?_⟩
      have s12 := same_upd (o := .lst [bv]) nl
      refine ⟨sa, S, x, m, es, l, [bv], .get bd, rfl, lk11.mt.same s12, SqL.of upd_same, ⟨hb11.sv (Same.sv s12), trivial⟩, by omega, ⟨fun _ H13 t13 s13 ht13 => ?_, (fun z => by rw [hnk] at z; cases z), (fun _ _ _ z => by rw [hnk] at z; cases z)⟩⟩
      have gT13 := s13 _ _ (s12 _ _ gT2)
      refine ⟨_, rfl, _, _, ss_dpT (SqT.of ht13.1), ss_dpT (SqT.of gT13), ss_shape knd_ok.2.1 knd_ok.2.2.2, ss_shape knd_ok.2.1 knd_ok.2.2.2, _, rfl, ?_⟩
      rw [eqv_ss, decide_eq_true rfl, decide_eq_true rfl]
      refine iteF ?_
      have s1113 := s12.trans s13
      refine ⟨_, rfl, _, rfl, (by show 2 ≤ sizeLine; decide), fun l2 nl2 => ?_⟩
      have s14 := s1113.trans (same_upd (o := .lst [bv, .int 1]) nl2)
      refine ⟨sa, S, x, m, es, l2, [bv, .int 1], .set bd (.int 1), rfl, lk11.mt.same s14, SqL.of upd_same, ⟨hb11.sv (Same.sv s14), rfl, trivial⟩, by omega, ⟨⟨fun _ H15 t15 s15 ht15 => ?_, (fun z => by rw [hnk] at z; cases z)⟩, (fun z => by rw [hnk] at z; cases z)⟩⟩
      have gT15 := s15 _ _ (s14 _ _ gT2)
      refine ⟨_, rfl, _, _, ss_dpT (SqT.of ht15.1), ss_dpT (SqT.of gT15), ss_shape knd_ok.2.1 knd_ok.2.2.2, ss_shape knd_ok.2.1 knd_ok.2.2.2, _, rfl, ?_⟩
      rw [eqv_ss, decide_eq_true rfl, decide_eq_true rfl]
      refine iteF ?_
      have s16 := s14.trans s15
      refine ⟨_, rfl, (by show 3 ≤ sizeLine; decide), fun T3 nT3 => ?_⟩
      have s17 := s16.trans (same_upd (o := .tup [.str "has", .str "remove", .str "merge"]) nT3)
      have lk17 := lk11.same s17
      refine ⟨a, p, T3, ns, _, rfl, lk17.I.st, SqT.of upd_same, by show 0 < 3; decide, by show 3 ≤ 100; decide, fun H18 nv hnv k18 st18 => ?_⟩
      have lk18 := lk17.draw k18 st18
      have hb18 : Has A H18 bv bd := (hb11.sv (Same.sv s17)).sv (lk17.I.sv k18)
      have rq18 : RQ P w A sa S r H18 Q := lk18.rq q
      simp only [List.mem_cons, List.not_mem_nil, or_false] at hnv
      rcases hnv with rfl | rfl | rfl
      · refine ⟨_, rfl, _, rfl, _, rfl, rfl, _, rfl, ifT (by decide +kernel) ⟨_, rfl, (by show 1 ≤ sizeLine; decide), fun l3 nl3 => ?_⟩⟩
        have s19 := same_upd (o := .lst [bv]) nl3
        refine ⟨sa, S, x, m, es, l3, [bv], .call (.bad (.has bd)), rfl, lk18.mt.same s19, SqL.of upd_same, ⟨hb18.sv (Same.sv s19), trivial⟩, by omega, ⟨⟨hok, fits_nokey S hnk⟩, fun H20 t20 s20 ht20 => ?_⟩⟩
        exact ⟨(by show 2 ≤ sizeLine; decide), err_eq ht20 fun H21 s21 => rq18 H21 sa S x m us es (Gw.same (s19.trans (s20.trans s21))) (lk18.mt.same (s19.trans (s20.trans s21))) (by omega) (lk18.rw.same (s19.trans (s20.trans s21)))⟩
      · refine ⟨_, rfl, _, rfl, _, rfl, rfl, _, rfl, ifT (by decide +kernel) ⟨_, rfl, (by show 1 ≤ sizeLine; decide), fun l3 nl3 => ?_⟩⟩
        have s19 := same_upd (o := .lst [bv]) nl3
        refine ⟨sa, S, x, m, es, l3, [bv], .call (.bad (.remove bd)), rfl, lk18.mt.same s19, SqL.of upd_same, ⟨hb18.sv (Same.sv s19), trivial⟩, by omega, ⟨⟨hok, fits_nokey S hnk⟩, fun H20 t20 s20 ht20 => ?_⟩⟩
        exact ⟨(by show 2 ≤ sizeLine; decide), err_eq ht20 fun H21 s21 => rq18 H21 sa S x m us es (Gw.same (s19.trans (s20.trans s21))) (lk18.mt.same (s19.trans (s20.trans s21))) (by omega) (lk18.rw.same (s19.trans (s20.trans s21)))⟩
      · refine ⟨_, rfl, _, rfl, _, rfl, rfl, _, rfl, ifF (by decide +kernel) ⟨(by show 1 ≤ sizeLine; decide), fun l3 nl3 => ?_⟩⟩
        have s19 := same_upd (o := .lst [.int 7]) nl3
        refine ⟨sa, S, x, m, es, l3, [.int 7], .call (.bad .merge), rfl, lk18.mt.same s19, SqL.of upd_same, ⟨rfl, trivial⟩, by omega, ⟨trivial, fun H20 t20 s20 ht20 => ?_⟩⟩
        exact ⟨(by show 2 ≤ sizeLine; decide), err_eq ht20 fun H21 s21 => rq18 H21 sa S x m us es (Gw.same (s19.trans (s20.trans s21))) (lk18.mt.same (s19.trans (s20.trans s21))) (by omega) (lk18.rw.same (s19.trans (s20.trans s21)))⟩
    refine ⟨_, rfl, a, p, ns, 4, rfl, lk5.I.st, by decide, by decide +kernel, fun H6 k4 k6 st6 _ _ => ?_⟩
    have lk6 := lk5.draw k6 st6
    have rq6 : RQ P w A sa S r H6 Q := lk6.rq q
    have ul : us.length = es.length := (lk6.rw.ps.prs (K := K)).len
    have le : es.length ≤ 1000 := by
      obtain ⟨_, _, _, _, le⟩ := lk6.mt.at_
      exact le
    refine ⟨_, _, rfl, rfl, _, rfl, ite2 (fun h11 => ?_) fun h11 => ?_⟩
    · refine ⟨_, rfl, (by show 0 ≤ sizeLine; decide), fun l nl => ?_⟩
      have s7 := same_upd (o := .lst []) nl
      refine ⟨sa, S, x, m, es, l, [], .call (.ok .length), rfl, lk6.mt.same s7, SqL.of upd_same, trivial, by omega, ⟨trivial, nofun, nofun⟩, fun H8 t ev8 vk8 mt8 ht8 => ?_⟩
      obtain ⟨m8, mt8⟩ := mt8
      have rw8 := (lk6.rw.same s7).ev ev8 vk8
      refine ⟨_, rfl, r, us, rfl, .inl (SqL.of rw8.hr), t, _, _, .int (es.length : Nat), rfl, ht8, (by rw [ul]; rfl), ?_⟩
      rw [decide_eq_true rfl]
      exact rq6 H8 sa _ x m8 us es (Gw.trans (s7 _ _ lk6.rw.hr) (Gw.same s7) (Gw.ev ev8 vk8)) mt8 (by rw [putT_len]; omega) rw8
    · refine ⟨_, rfl, .inl ⟨rfl, _, SqL.of lk6.rw.hr⟩, r, us, rfl, rfl, lk6.rw.hr, ?_⟩
      have kp : Keep r H6 (upd H6 r (.lst [])) := keep_upd
      have mt7 := lk6.mt.keep kp lk6.rw.hr lk6.rw.no
      have hr7 : upd H6 r (.lst []) r = some (.lst []) := upd_same
      refine ⟨_, rfl, (by show 0 ≤ sizeLine; decide), fun l nl => ?_⟩
      have s7 := same_upd (o := .lst []) nl
      refine ⟨sa, S, x, m, es, l, [], .call (.ok .clear), rfl, mt7.same s7, SqL.of upd_same, trivial, by omega, ⟨trivial, nofun, nofun⟩, fun H8 t ev8 vk8 mt8 ht8 => ?_⟩
      obtain ⟨m8, mt8⟩ := mt8
      have rw7 : Rw A sa (upd H6 r (.lst [])) r [] [] := ⟨upd_same, trivial, lk6.rw.no⟩
      have rw8 := (rw7.same s7).ev ev8 vk8
      refine ⟨t, .non, .non, .non, rfl, ht8, rfl, ?_⟩
      rw [decide_eq_true rfl]
      exact rq6 H8 sa _ x m8 [] [] (Gw.trans hr7 (Gw.keep kp lk6.rw.hr) (Gw.trans (s7 _ _ hr7) (Gw.same s7) (Gw.ev ev8 vk8))) mt8 (by rw [putT_len]; omega) rw8
end
end My
namespace My
open PySem L2 SX XT XS XE XD XL XZ
open C8 (pss_cut tCut cutS_slice pe_gc)
/-- the rows [(k + 10, k) for k in range(n)] -/
def intsE (n : Nat) : List (Dv × Dv) := (List.range n).map fun (k : Nat) => (Dv.int (((k : Nat) : Int) + 10), Dv.int ((k : Nat) : Int))
theorem intsE_len {n : Nat} : (intsE n).length = n := by simp [intsE]
theorem intsE_succ {n : Nat} : intsE (n + 1) = intsE n ++ [(Dv.int (((n : Nat) : Int) + 10), Dv.int ((n : Nat) : Int))] := by
  unfold intsE
  rw [List.range_succ, List.map_append]
  rfl
theorem intsE_nd {n : Nat} : ((intsE n).map Prod.fst).Nodup := by
  unfold intsE
  rw [List.map_map]
  refine List.Pairwise.map _ (fun a b (h : a ≠ b) e => h ?_) List.nodup_range
  have : Dv.int ((a : Int) + 10) = Dv.int ((b : Int) + 10) := e
  injection this with this
  omega
section
variable {P : Program} {w : World} {K : PySem.W.Frag} {mg : Str → Option Value} {base : Heap} {A : Ads}
def spLaw (K : PySem.W.Frag) : Sp := fun vs H Q _ => ∃ (a : Addr) (ns : List Int), vs = [.ref a] ∧ SqL K H a (ns.map V.int) ∧ ns.length ≤ 63 ∧ ∀ H', Q (.bl true) H'
theorem ok_law {f : Addr} {fd : FuncData} (F : Fun K "law" "law" s_law f fd) (L : Lib P K mg A) (D : Fd w L) : FnOk P w K mg base CX0 12 f fd ["script"] (spLaw K) := by
  have G_law_begin : FnOk P w K mg base CX0 1 L.law_begin.f L.law_begin.fd ["script", "k"] (spBegin K) := ok_law_begin L
  have G_law_draw : FnOk P w K mg base CX0 2 L.law_draw.f L.law_draw.fd ["state", "many"] (spDraw K) := ok_law_draw L
  have G_Store_init : FnOk P w K mg base CX0 3 L.Store_init.f L.Store_init.fd ["self", "lines"] (spSI P w K A) := ok_Store_init L
  have G_Ref_init : FnOk P w K mg base CX0 1 L.Ref_init.f L.Ref_init.fd ["self", "number"] (spI1 A.Ref "number") := ok_Ref_init L
  have G_make_map : FnOk P w K mg base CX0 4 L.make_map.f L.make_map.fd ["store", "pairs"] (spMMp P w K A) := ok_make_map L
  have G_law_step : FnOk P w K mg base CX0 11 L.law_step.f L.law_step.fd ["store", "rows", "state"] (spLMerged P w K A) := ok_law_step L D
  have G_law_pairs : FnOk P w K mg base CX0 3 L.law_pairs.f L.law_pairs.fd ["told", "rows"] (spLPs K A) := ok_law_pairs L
  have G_Table_pairs : FnOk P w K mg base CX0 1 L.Table_pairs.f L.Table_pairs.fd ["self"] (spMPairsT P w A) := ok_mpairsT L
  have G_Table_many : FnOk P w K mg base CX0 1 L.Table_many.f L.Table_many.fd ["self"] (spTMany P w A) := ok_Table_many L
  refine F.ok sc_law (fun vs H Q E h => ?_) (fun cdv A' outer s H vs Q E hr h => ?_)
  · obtain ⟨a, ns, rfl, _⟩ := h
    rfl
  · obtain ⟨a, ns, rfl, ha, hns, q⟩ := h
    refine ⟨_, (pss_cons (ps_set (i := 1) sc_law.nd rfl (.inl rfl) (pe_call G_law_begin (hr.mono (by omega)) (by rfl) L.law_begin.g L.law_begin.F.kp L.law_begin.b .nil pass0 (pa_cons (pv 0) (pa_cons pe_int pa_nil))))
      (pss_cons (ps_set (i := 2) sc_law.nd rfl (.inl rfl) (pe_make L.Store_init.m G_Store_init (hr.mono (by omega)) (by rfl) L.c_Store.g L.Store_init.b .nil pass0 (pa_cons (pe_lst pa_nil) pa_nil)))
      (pss_cons (ps_set (i := 3) sc_law.nd rfl (.inl rfl) (pe_lst pa_nil))
      (pss_cut (ps_if (pt_cmpR op_eq (pe_call G_law_draw (hr.mono (by omega)) (by rfl) L.law_draw.g L.law_draw.F.kp L.law_draw.b .nil pass0 (pa_cons (pv 1) (pa_cons pe_int pa_nil))) pe_int (nomark _))
        (pss_one (ps_setLc (i := 3) (own := [("k", 4)]) (g := gName 4) (tt := tYes) (by rfl) sc_law.nd rfl rfl (sw_true rfl rfl rfl (by decide +kernel)) (pi_range1 (by rfl) L.z_range (pa_cons (pe_op op_add pe_int (pe_call G_law_draw (hr.mono (by omega)) (by rfl) L.law_draw.g L.law_draw.F.kp L.law_draw.b .nil pass0 (pa_cons (pv 1) (pa_cons pe_int pa_nil)))) pa_nil)) (blkOk_by (own := [("k", 4)]) (N := ["script", "state", "store", "rows", "k"]) (sc := defScope (top 141)) (by decide +kernel)) (fun _ _ _ _ _ => (pg_name (i := 4) sc_law.nd rfl (.inl rfl))) (fun _ _ _ _ _ => pts_nil) (fun _ _ _ _ _ => (pe_tup (pa_cons (pe_op op_add (pv 4) pe_int) (pa_cons (pv 4) pa_nil))))))
        pss_nil)
      (pss_cons (ps_if (pt_not (pt_cmpR (op_eqM L (hr.mono (by omega))) (pe_call G_make_map (hr.mono (by omega)) (by rfl) L.make_map.g L.make_map.F.kp L.make_map.b .nil pass0 (pa_cons (pv 2) (pa_cons (pe_callTy call_list_of (by rfl) L.z_list (by decide +kernel) (pa_cons (pv 3) pa_nil)) pa_nil))) (pe_make L.Ref_init.m G_Ref_init (hr.mono (by omega)) (by rfl) L.c_Ref.g L.Ref_init.b .nil pass0 (pa_cons pe_int pa_nil)) (nomark _)))
        (pss_one (ps_ret pe_bl))
        pss_nil)
      (pss_cons (ps_for PassesOwn.never rfl (pi_range1 (by rfl) L.z_range (pa_cons (pe_callB (call_min2 rfl) (by rfl) L.z_min (by decide +kernel) (pa_cons pe_int (pa_cons (pe_callB (call_max2 rfl) (by rfl) L.z_max (by decide +kernel) (pa_cons pe_int (pa_cons (pe_callB call_len_seq (by rfl) L.z_len PySem.boot_len (pa_cons (pv 0) pa_nil)) pa_nil))) pa_nil))) pa_nil)) (pg_name (i := 4) sc_law.nd rfl (.inl rfl))
        (pss_cons (ps_if (PW.pt (pw_or (pt_not (pt_val (pe_call G_law_step (hr.mono (by omega)) (by rfl) L.law_step.g L.law_step.F.kp L.law_step.b .nil pass0 (pa_cons (pv 2) (pa_cons (pv 3) (pa_cons (pv 1) pa_nil)))))) (pw_or1 (pt_not (pt_val (pe_call G_law_pairs (hr.mono (by omega)) (by rfl) L.law_pairs.g L.law_pairs.F.kp L.law_pairs.b .nil pass0 (pa_cons (pe_meth0 (pe_ix ix_list (pe_fld (pv 2) rfl) pe_int (fun _ _ => rfl)) L.c_Table.cl L.Table_pairs.m G_Table_pairs (hr.mono (by omega)) L.Table_pairs.b .nil pass0) (pa_cons (pv 3) pa_nil))))))))
        (pss_one (ps_ret pe_bl))
        pss_nil)
      (pss_one (ps_if (pt_cmpR op_ne (pe_prop (pe_ix ix_list (pe_fld (pv 2) rfl) pe_int (fun _ _ => rfl)) L.c_Table.cl L.Table_many.m G_Table_many (hr.mono (by omega)) L.Table_many.b .nil pass0 rfl) (pe_callB call_len_seq (by rfl) L.z_len PySem.boot_len (pa_cons (pv 3) pa_nil)) (nomark _))
        (pss_one (ps_ret pe_bl))
        pss_nil))))
      (pss_one (ps_ret pe_bl)))))))), ?_⟩
    refine ⟨_, rfl, a, ns, 0, rfl, ha, by omega, fun H1 p np s1 st1 => ?_⟩
    refine ⟨Nat.zero_le _, fun l nl b db nb ndb ndbb => ?_⟩
    have sm0 : Same H1 (upd (upd (upd H1 l (.lst [])) db (.own b)) b (.ins A.Store db [])) := fun c u e => by
      have e1 : upd H1 l (.lst []) c = some u := by rw [upd_ne (ne_of_none e nl)]; exact e
      rw [upd_ne (ne_of_none e1 nb), upd_ne (ne_of_none e1 ndb)]
      exact e1
    have nl' : ∀ c, upd H1 l (.lst []) c = none → c ≠ l := fun c e z => by rw [z, upd_same] at e; cases e
    have nb1 : H1 b = none := by have := nl' b nb; rw [upd_ne this] at nb; exact nb
    refine ⟨b, db, l, [], rfl, upd_same, SqL.of (by rw [upd_ne (nl' b nb).symm, upd_ne (nl' db ndb).symm]; exact upd_same), (nl' b nb).symm, fun H2 sa hsb k2 sm2 fr2 => ⟨rfl, ?_⟩⟩
    subst hsb
    have s2 : Same H1 H2 := fun c u e => k2 _ _ (sm0 _ _ e) fun z => by rw [z, nb1] at e; cases e
    have ownN : ∀ c, sa.own c → H1 c = none := fun c z => by
      rcases fr2 c z with rfl | q
      · exact nb1
      · exact sm0.free q
    have I2 : LI P w K A a p ns H1 H2 sa (stO []) := ⟨st1, My.Same.keep s2, st1.same s2, sm2, ownN⟩
    clear sm0 nl' nb1 ownN k2 fr2 sm2 nb ndb ndbb nl
    refine ⟨by show 0 ≤ sizeLine; decide, fun D nD => ?_⟩
    have d7 : H1 D = none := I2.h7 nD
    have dnp : D ≠ p := fun z => by obtain ⟨xs, hp⟩ := I2.hp; rw [z, hp] at nD; cases nD
    have dno : ¬ sa.own D := I2.sm.fresh L nD
    have I4 := I2.same (same_upd (o := .lst []) nD)
    have e1 : upd H2 D (.lst []) D = some (.lst []) := upd_same
    generalize upd H2 D _ = H4 at I4 e1 ⊢
    refine ⟨fun σ' H' => ∃ (r : Addr) (us : List V) (es : List (Dv × Dv)), σ' = [some (.ref a), some (.ref p), some (.ref sa.s), some (.ref r), none] ∧ LI P w K A a p ns H1 H' sa (stO []) ∧ H' r = some (.lst us) ∧ Prt A H' us es ∧ (es.map Prod.fst).Nodup ∧ H1 r = none ∧ ¬ sa.own r ∧ r ≠ p ∧ es.length ≤ 1000, ?_, ?_⟩
    · refine ⟨_, rfl, a, p, ns, 6, rfl, I4.st, by decide, by decide, fun H5 r5 k5 st5 r0 r1 => ⟨rfl, _, rfl, ite2 (fun h => ?_) fun h => ?_⟩⟩
      · have I5 := I4.draw k5 st5
        refine ⟨_, rfl, a, p, ns, 6, rfl, st5, by decide, by decide, fun H6 r6 k6 st6 g0 g1 => ⟨_, _, rfl, rfl, ?_⟩⟩
        have I6 := I5.draw k6 st6
        obtain ⟨n2, hn2⟩ : ∃ n2 : Nat, (995 : Int) + r6 = ((n2 : Nat) : Int) := ⟨(995 + r6).toNat, by omega⟩
        refine ⟨((n2 : Nat) : Int), by show [V.int (995 + r6)] = [V.int ((n2 : Nat) : Int)]; rw [hn2], by omega, by omega, fun D2 nD2 => ?_⟩
        refine lc_range (lo := 0) (n := n2) (fun j H' => Same H6 H' ∧ ∃ vs, H' D2 = some (.lst vs) ∧ Prt A H' vs (intsE j)) ⟨same_upd nD2, [], upd_same, trivial⟩ ?_ ?_
        · rintro j H13 hj ⟨s13, vs, hD, hp⟩
          rw [Int.zero_add]
          have hl := (hp.prs (K := K)).len
          rw [intsE_len] at hl
          refine ⟨rfl, _, rfl, _, _, rfl, rfl, _, rfl, (by show 2 ≤ sizeLine; decide), fun T nT => ?_⟩
          have sT := same_upd (o := .tup [.int (((j : Nat) : Int) + 10), .int ((j : Nat) : Int)]) nT
          have hD' := sT _ _ hD
          have gT : upd H13 T (.tup [.int (((j : Nat) : Int) + 10), .int ((j : Nat) : Int)]) T = some (.tup [.int (((j : Nat) : Int) + 10), .int ((j : Nat) : Int)]) := upd_same
          have sv := (Sv.vk (Keep.sv (keep_upd (o := .lst (vs ++ [.ref T]))) hD') : Vk A _ _)
          refine ⟨vs, hD', Nat.lt_of_le_of_lt (m := 2000) (by omega) (by decide), fun b u e => ?_, vs ++ [.ref T], upd_same, ?_⟩
          · rw [upd_ne (ne_of_none e nD2)]
            exact (s13.trans sT) _ _ e
          · rw [intsE_succ]
            exact Prt.app ((hp.imp (Sv.vk (Same.sv sT))).imp sv) (us := [.ref T]) (es := [(Dv.int (((j : Nat) : Int) + 10), Dv.int ((j : Nat) : Int))]) ⟨⟨rfl, T, .int (((j : Nat) : Int) + 10), .int ((j : Nat) : Int), rfl, sv.t _ _ gT, rfl, rfl⟩, trivial⟩
        · rintro H8 ⟨s8, vs, e8, hp⟩
          exact ⟨D2, vs, intsE n2, rfl, I6.same s8, e8, hp, intsE_nd, I6.h7 nD2, I6.sm.fresh L nD2, (fun z => by obtain ⟨xs, hp⟩ := I6.hp; rw [z, hp] at nD2; cases nD2), by rw [intsE_len]; omega⟩
      · have I5 := I4.draw k5 st5
        exact ⟨D, [], [], rfl, I5, k5 _ _ e1 dnp, trivial, by simp, d7, dno, dnp, by simp⟩
    rintro σ' H5 ⟨r, us, es, rfl, I5, hr5, hs5, nd5, r7, rno, rnp, hle⟩
    refine ⟨_, rfl, _, rfl, r, us, rfl, .inl (SqL.of hr5), fun G nG => ?_⟩
    have s6 := same_upd (o := .lst us) nG
    have I6 := I5.same s6
    have hG6 : upd H5 G (.lst us) G = some (.lst us) := upd_same
    have hr6 := s6 _ _ hr5
    have hs6 := hs5.imp (Sv.vk (Same.sv s6))
    generalize upd H5 G _ = H6 at s6 I6 hG6 hr6 hs6 ⊢
    refine ⟨sa, stO [], G, us, es, rfl, I6.sm, SqL.of hG6, hs6.prs, hle, (by show 1 < 100000; decide), fun H7 rr sa7 ev7 sm7 hr7 => ?_⟩
    rw [putAll_id nd5] at sm7
    intro y dy ny ndy nyd
    refine ⟨y, dy, _, rfl, upd_same, fun H8 k8 hR8 => ⟨rfl, ?_⟩⟩
    have s8 : Same H7 H8 := Same.made ny ndy k8
    refine ⟨.obj 1, .obj 1, hr7.sv (Same.sv s8), ⟨y, dy, rfl, hR8⟩, rfl, _, rfl, ?_⟩
    rw [decide_eq_true rfl]
    refine iteF ?_
    have I8 := (I6.ev ev7 sm7).same s8
    have th7 : ((stO []).things ++ [Th.table es])[1]? = some (.table es) := rfl
    obtain ⟨x, m, hX, hM, _⟩ := I8.sm.get (i := 1) th7
    have hr8 := s8 _ _ (ev7.fr _ _ hr6 rno)
    have hs8 := (hs6.imp (ev7.fr.vk L I6.sm)).imp (Sv.vk (Same.sv s8))
    have lk8 : LK P w K A a p ns H1 H8 sa7 _ x m r us es := ⟨I8, ⟨I8.sm, hX, hM, th7⟩, ⟨hr8, hs8, ev7.nin hr6 rno⟩, r7, rnp⟩
    have e7 := ev7.s
    obtain ⟨N, hN, hN40⟩ : ∃ N : Nat, (if (if ((ns.map V.int).length : Int) > 8 then ((ns.map V.int).length : Int) else 8) < 45 then (if ((ns.map V.int).length : Int) > 8 then ((ns.map V.int).length : Int) else 8) else (45 : Int)) = (N : Int) ∧ N ≤ 45 := by
      refine ⟨min 45 (max 8 (ns.map V.int).length), ?_, Nat.min_le_left _ _⟩
      generalize (ns.map V.int).length = z
      split <;> split <;> omega
    obtain ⟨xq, kq, _, _, hs2⟩ := lk8.I.st
    refine ⟨_, rfl, a, _, rfl, .inl hs2, _, _, rfl, _, _, rfl, (N : Int), by show [V.int _] = [V.int _]; rw [hN], by omega, by omega, for_range (n := N) (fun i σ H' => ∃ (y4 : Option V) (sa' : Sa) (S' : St) (x m : Addr) (us : List V) (es : List (Dv × Dv)), σ = [some (.ref a), some (.ref p), some (.ref sa.s), some (.ref r), y4] ∧ sa'.s = sa.s ∧ LK P w K A a p ns H1 H' sa' S' x m r us es ∧ S'.things.length ≤ 2 + 110 * i)
      ⟨_, sa7, _, x, m, us, es, rfl, e7, lk8, Nat.le_refl _⟩ ?_ ?_⟩
    · rintro i σ H10 hi ⟨y5, sa', S', x, m, us, es, rfl, e', L10, hb⟩
      refine ⟨_, rfl, _, rfl, _, rfl, a, p, ns, H1, sa', S', x, m, r, us, es, by rw [e']; rfl, L10, by omega, fun H11 sa11 S11 x11 m11 us11 es11 e11 L11 le11 => ?_⟩
      obtain ⟨dsS, hsS⟩ := L11.mt.sm.s_
      rw [e11, e'] at hsS
      obtain ⟨dx, hx⟩ := L11.mt.tx
      have ax : atI (sa11.X.map V.ref) 1 = some (.ref x11) := atI_nat (j := 1) (by rw [List.getElem?_map, L11.mt.x_]; rfl)
      obtain ⟨ents, T, hE, _, le⟩ := L11.mt.at_
      refine ⟨_, rfl, iteF ?_⟩
      refine ⟨_, rfl, sa.s, A.Store, dsS, _, _, rfl, hsS, L.c_Store.cl, L.n_Store_things, st_things _ _ _ _, sa11.t, _, _, .ref x11, rfl, rfl, SqL.of L11.mt.sm.t_, ax, x11, dx, _, rfl, hx, tab_none (by decide +kernel), sa11, _, 1, x11, m11, es11, rfl, L11.mt, fun H12 lp usp s12 nlp hlp prp => ?_⟩
      have L12 := L11.same s12
      have ul : us11.length = es11.length := (L11.rw.ps.prs (K := K)).len
      refine ⟨_, rfl, lp, r, usp, us11, es11, rfl, hlp, prp, SqL.of L12.rw.hr, L12.rw.ps.prs, by omega, _, rfl, iteF ?_⟩
      have hsS' := s12 _ _ hsS
      obtain ⟨dx', hx'⟩ := L12.mt.tx
      obtain ⟨ents', T', hE', _, _⟩ := L12.mt.at_
      refine ⟨_, rfl, sa.s, A.Store, dsS, _, _, rfl, hsS', L.c_Store.cl, L.n_Store_things, st_things _ _ _ _, sa11.t, _, _, .ref x11, rfl, rfl, SqL.of L12.mt.sm.t_, ax, x11, dx', _, rfl, hx', x11, m11, ents', rfl, T', ?_⟩
      refine ⟨_, rfl, r, us11, rfl, .inl (SqL.of L12.rw.hr), rfl, _, rfl, ifF (by rw [hE'.len, ul]; simp) ?_⟩
      exact ⟨_, sa11, S11, x11, m11, us11, es11, rfl, e11.trans e', L12, by omega⟩
    · rintro σ H10 _
      exact q H10
end
end My
namespace My
open PySem L2 SX XT XS XE XD XL XZ
set_option maxHeartbeats 0 in
theorem all_mk {l : PySem.W.OpenLaw} {w : World} {K : PySem.W.Frag} {h : Heap} {mg : Str → Option Value} {fa cRef cBuiltin cParts cTable cInstance cKin cStore cLivequillError cScriptError fScriptError cdaScriptError ccScriptError a_tagged a_kind_of a_kind_of_thing a_is_key a_check_size a_check_count a_check_arguments a_check_kind a_get_item a_value_at a_set_item a_check_key a_put_entry a_make_list a_make_map a_make_pairs a_has a_keys_of a_values_of a_entries a_get a_merge a_clear a_call_method a_method_for a_law_cell a_law_begin a_law_draw a_law_pick a_law_key a_law_same a_law_at a_law_put a_law_pairs a_law_try a_law_is a_law_taken a_law_set a_law_read a_law_listed a_law_merged a_law_step a_law a_take_out_maps a_copy_maps a_length_maps a_Ref_init a_Ref_eq a_Builtin_init a_Builtin_eq a_Parts_init a_Table_init a_Table_has a_Table_value_of a_Table_put a_Table_take_out a_Table_pairs a_Table_many p_Table_many a_Kin_init a_Store_init a_Store_make a_Store_at aLM tA0 qA0 tA1 qA1 tA2 qA2 tA3 qA3 tA4 qA4 tA5 qA5 tA6 qA6 tA7 qA7 tA8 qA8 tA9 qA9 : Addr} (X : K.In h) (G : h.Ns mainGlobals mg) (hfa : mg "law" = some (.ref fa))
    {nmScriptError qScriptError flScriptError : Str}
    {NScriptError : Addr}
    {bsScriptError subScriptError rsf_Table_many : List Value}
    {snScriptError : List Str}
    {abScriptError : Bool}
    {colScriptError : Option Bool}
    {ddScriptError odScriptError anScriptError cddScriptError cldScriptError odf_tagged anf_tagged odf_kind_of anf_kind_of odf_kind_of_thing anf_kind_of_thing odf_is_key anf_is_key odf_check_size anf_check_size odf_check_count anf_check_count odf_check_arguments anf_check_arguments odf_check_kind anf_check_kind odf_get_item anf_get_item odf_value_at anf_value_at odf_set_item anf_set_item odf_check_key anf_check_key odf_put_entry anf_put_entry odf_make_list anf_make_list odf_make_map anf_make_map odf_make_pairs anf_make_pairs odf_has anf_has odf_keys_of anf_keys_of odf_values_of anf_values_of odf_entries anf_entries odf_get anf_get odf_merge anf_merge odf_clear anf_clear odf_call_method anf_call_method odf_method_for anf_method_for odf_law_cell anf_law_cell odf_law_begin anf_law_begin odf_law_draw anf_law_draw odf_law_pick anf_law_pick odf_law_key anf_law_key odf_law_same anf_law_same odf_law_at anf_law_at odf_law_put anf_law_put odf_law_pairs anf_law_pairs odf_law_try anf_law_try odf_law_is anf_law_is odf_law_taken anf_law_taken odf_law_set anf_law_set odf_law_read anf_law_read odf_law_listed anf_law_listed odf_law_merged anf_law_merged odf_law_step anf_law_step odlaw anlaw odf_take_out_maps anf_take_out_maps odf_copy_maps anf_copy_maps odf_length_maps anf_length_maps odf_Ref_init anf_Ref_init odf_Ref_eq anf_Ref_eq odf_Builtin_init anf_Builtin_init odf_Builtin_eq anf_Builtin_eq odf_Parts_init anf_Parts_init odf_Table_init anf_Table_init odf_Table_has anf_Table_has odf_Table_value_of anf_Table_value_of odf_Table_put anf_Table_put odf_Table_take_out anf_Table_take_out odf_Table_pairs anf_Table_pairs odf_Table_many anf_Table_many odf_Kin_init anf_Kin_init odf_Store_init anf_Store_init odf_Store_make anf_Store_make odf_Store_at anf_Store_at tD0 qD0 tD1 qD1 tD2 qD2 tD3 qD3 tD4 qD4 tD5 qD5 tD6 qD6 tD7 qD7 tD8 qD8 tD9 qD9 : Option Addr}
    {m0ScriptError m1ScriptError m2ScriptError m3ScriptError m5ScriptError : Option Value}
    {slScriptError ccsScriptError cslScriptError slf_tagged slf_kind_of slf_kind_of_thing slf_is_key slf_check_size slf_check_count slf_check_arguments slf_check_kind slf_get_item slf_value_at slf_set_item slf_check_key slf_put_entry slf_make_list slf_make_map slf_make_pairs slf_has slf_keys_of slf_values_of slf_entries slf_get slf_merge slf_clear slf_call_method slf_method_for slf_law_cell slf_law_begin slf_law_draw slf_law_pick slf_law_key slf_law_same slf_law_at slf_law_put slf_law_pairs slf_law_try slf_law_is slf_law_taken slf_law_set slf_law_read slf_law_listed slf_law_merged slf_law_step sllaw slf_take_out_maps slf_copy_maps slf_length_maps slf_Ref_init slf_Ref_eq slf_Builtin_init slf_Builtin_eq slf_Parts_init slf_Table_init slf_Table_has slf_Table_value_of slf_Table_put slf_Table_take_out slf_Table_pairs slf_Table_many slf_Kin_init slf_Store_init slf_Store_make slf_Store_at tO0 qO0 tO1 qO1 tO2 qO2 tO3 qO3 tO4 qO4 tO5 qO5 tO6 qO6 tO7 qO7 tO8 qO8 tO9 qO9 : Array (Option Value)}
    {ocScriptError kVScriptError dcScriptError pmScriptError ctScriptError cclScriptError cl_ScriptError ocf_tagged kVf_tagged dcf_tagged pmf_tagged cdf_tagged ctf_tagged ocf_kind_of kVf_kind_of dcf_kind_of pmf_kind_of cdf_kind_of ctf_kind_of ocf_kind_of_thing kVf_kind_of_thing dcf_kind_of_thing pmf_kind_of_thing cdf_kind_of_thing ctf_kind_of_thing ocf_is_key kVf_is_key dcf_is_key pmf_is_key cdf_is_key ctf_is_key ocf_check_size kVf_check_size dcf_check_size pmf_check_size cdf_check_size ctf_check_size ocf_check_count kVf_check_count dcf_check_count pmf_check_count cdf_check_count ctf_check_count ocf_check_arguments kVf_check_arguments dcf_check_arguments pmf_check_arguments cdf_check_arguments ctf_check_arguments ocf_check_kind kVf_check_kind dcf_check_kind pmf_check_kind cdf_check_kind ctf_check_kind ocf_get_item kVf_get_item dcf_get_item pmf_get_item cdf_get_item ctf_get_item ocf_value_at kVf_value_at dcf_value_at pmf_value_at cdf_value_at ctf_value_at ocf_set_item kVf_set_item dcf_set_item pmf_set_item cdf_set_item ctf_set_item ocf_check_key kVf_check_key dcf_check_key pmf_check_key cdf_check_key ctf_check_key ocf_put_entry kVf_put_entry dcf_put_entry pmf_put_entry cdf_put_entry ctf_put_entry ocf_make_list kVf_make_list dcf_make_list pmf_make_list cdf_make_list ctf_make_list ocf_make_map kVf_make_map dcf_make_map pmf_make_map cdf_make_map ctf_make_map ocf_make_pairs kVf_make_pairs dcf_make_pairs pmf_make_pairs cdf_make_pairs ctf_make_pairs ocf_has kVf_has dcf_has pmf_has cdf_has ctf_has ocf_keys_of kVf_keys_of dcf_keys_of pmf_keys_of cdf_keys_of ctf_keys_of ocf_values_of kVf_values_of dcf_values_of pmf_values_of cdf_values_of ctf_values_of ocf_entries kVf_entries dcf_entries pmf_entries cdf_entries ctf_entries ocf_get kVf_get dcf_get pmf_get cdf_get ctf_get ocf_merge kVf_merge dcf_merge pmf_merge cdf_merge ctf_merge ocf_clear kVf_clear dcf_clear pmf_clear cdf_clear ctf_clear ocf_call_method kVf_call_method dcf_call_method pmf_call_method cdf_call_method ctf_call_method ocf_method_for kVf_method_for dcf_method_for pmf_method_for cdf_method_for ctf_method_for ocf_law_cell kVf_law_cell dcf_law_cell pmf_law_cell cdf_law_cell ctf_law_cell ocf_law_begin kVf_law_begin dcf_law_begin pmf_law_begin cdf_law_begin ctf_law_begin ocf_law_draw kVf_law_draw dcf_law_draw pmf_law_draw cdf_law_draw ctf_law_draw ocf_law_pick kVf_law_pick dcf_law_pick pmf_law_pick cdf_law_pick ctf_law_pick ocf_law_key kVf_law_key dcf_law_key pmf_law_key cdf_law_key ctf_law_key ocf_law_same kVf_law_same dcf_law_same pmf_law_same cdf_law_same ctf_law_same ocf_law_at kVf_law_at dcf_law_at pmf_law_at cdf_law_at ctf_law_at ocf_law_put kVf_law_put dcf_law_put pmf_law_put cdf_law_put ctf_law_put ocf_law_pairs kVf_law_pairs dcf_law_pairs pmf_law_pairs cdf_law_pairs ctf_law_pairs ocf_law_try kVf_law_try dcf_law_try pmf_law_try cdf_law_try ctf_law_try ocf_law_is kVf_law_is dcf_law_is pmf_law_is cdf_law_is ctf_law_is ocf_law_taken kVf_law_taken dcf_law_taken pmf_law_taken cdf_law_taken ctf_law_taken ocf_law_set kVf_law_set dcf_law_set pmf_law_set cdf_law_set ctf_law_set ocf_law_read kVf_law_read dcf_law_read pmf_law_read cdf_law_read ctf_law_read ocf_law_listed kVf_law_listed dcf_law_listed pmf_law_listed cdf_law_listed ctf_law_listed ocf_law_merged kVf_law_merged dcf_law_merged pmf_law_merged cdf_law_merged ctf_law_merged ocf_law_step kVf_law_step dcf_law_step pmf_law_step cdf_law_step ctf_law_step oclaw kVlaw dclaw pmlaw cdlaw ctlaw ocf_take_out_maps kVf_take_out_maps dcf_take_out_maps pmf_take_out_maps cdf_take_out_maps ctf_take_out_maps ocf_copy_maps kVf_copy_maps dcf_copy_maps pmf_copy_maps cdf_copy_maps ctf_copy_maps ocf_length_maps kVf_length_maps dcf_length_maps pmf_length_maps cdf_length_maps ctf_length_maps ocf_Ref_init kVf_Ref_init dcf_Ref_init pmf_Ref_init cdf_Ref_init ctf_Ref_init ocf_Ref_eq kVf_Ref_eq dcf_Ref_eq pmf_Ref_eq cdf_Ref_eq ctf_Ref_eq ocf_Builtin_init kVf_Builtin_init dcf_Builtin_init pmf_Builtin_init cdf_Builtin_init ctf_Builtin_init ocf_Builtin_eq kVf_Builtin_eq dcf_Builtin_eq pmf_Builtin_eq cdf_Builtin_eq ctf_Builtin_eq ocf_Parts_init kVf_Parts_init dcf_Parts_init pmf_Parts_init cdf_Parts_init ctf_Parts_init ocf_Table_init kVf_Table_init dcf_Table_init pmf_Table_init cdf_Table_init ctf_Table_init ocf_Table_has kVf_Table_has dcf_Table_has pmf_Table_has cdf_Table_has ctf_Table_has ocf_Table_value_of kVf_Table_value_of dcf_Table_value_of pmf_Table_value_of cdf_Table_value_of ctf_Table_value_of ocf_Table_put kVf_Table_put dcf_Table_put pmf_Table_put cdf_Table_put ctf_Table_put ocf_Table_take_out kVf_Table_take_out dcf_Table_take_out pmf_Table_take_out cdf_Table_take_out ctf_Table_take_out ocf_Table_pairs kVf_Table_pairs dcf_Table_pairs pmf_Table_pairs cdf_Table_pairs ctf_Table_pairs ocf_Table_many kVf_Table_many dcf_Table_many pmf_Table_many cdf_Table_many ctf_Table_many ocf_Kin_init kVf_Kin_init dcf_Kin_init pmf_Kin_init cdf_Kin_init ctf_Kin_init ocf_Store_init kVf_Store_init dcf_Store_init pmf_Store_init cdf_Store_init ctf_Store_init ocf_Store_make kVf_Store_make dcf_Store_make pmf_Store_make cdf_Store_make ctf_Store_make ocf_Store_at kVf_Store_at dcf_Store_at pmf_Store_at cdf_Store_at ctf_Store_at : Value}
    {cvsScriptError tI0 qI0 tI1 qI1 tI2 qI2 tI3 qI3 tI4 qI4 tI5 qI5 tI6 qI6 tI7 qI7 tI8 qI8 tI9 qI9 : Array Value}
    {tfScriptError tkMOST_HELD : Tok}
    {esLM : Array DictEntry}
    {nnLM tN0 qN0 tN1 qN1 tN2 qN2 tN3 qN3 tN4 qN4 tN5 qN5 tN6 qN6 tN7 qN7 tN8 qN8 tN9 qN9 : Nat}
    (uRef : PySem.W.nsIn K mainGlobals "Ref" = some (some (.ref cRef)))
    (mkRef : PySem.W.makesIn K cRef = true)
    (kcRef : PySem.W.keepIn K (.ref cRef) = true)
    (pgRef : PySem.W.plainGet K cRef Str.empty = true)
    (hdRef : PySem.W.hasDictIn K cRef = true)
    (poRef : PySem.W.plainOver K cRef = true)
    (saRef : PySem.W.findIn K (.ref cRef) "__setattr__" = some (some (.builtin "object.__setattr__")))
    (nRef_number : PySem.W.findIn K (.ref cRef) "number" = some none)
    (hnTy : PySem.W.specialIn K (.builtin "object.__class__") "__get__" = some (some (.builtin "getset_descriptor.__get__")))
    (htTy : PySem.W.takesIn K (.builtin "object.__class__") = some true)
    (haRef : PySem.W.findIn K (.ref cRef) "__class__" = some (some (.builtin "object.__class__")))
    (hmRef : PySem.W.mroIn K cRef (.type "object") = some true)
    (uBuiltin : PySem.W.nsIn K mainGlobals "Builtin" = some (some (.ref cBuiltin)))
    (mkBuiltin : PySem.W.makesIn K cBuiltin = true)
    (kcBuiltin : PySem.W.keepIn K (.ref cBuiltin) = true)
    (pgBuiltin : PySem.W.plainGet K cBuiltin Str.empty = true)
    (hdBuiltin : PySem.W.hasDictIn K cBuiltin = true)
    (poBuiltin : PySem.W.plainOver K cBuiltin = true)
    (saBuiltin : PySem.W.findIn K (.ref cBuiltin) "__setattr__" = some (some (.builtin "object.__setattr__")))
    (nBuiltin_name : PySem.W.findIn K (.ref cBuiltin) "name" = some none)
    (haBuiltin : PySem.W.findIn K (.ref cBuiltin) "__class__" = some (some (.builtin "object.__class__")))
    (hmBuiltin : PySem.W.mroIn K cBuiltin (.type "object") = some true)
    (uParts : PySem.W.nsIn K mainGlobals "Parts" = some (some (.ref cParts)))
    (mkParts : PySem.W.makesIn K cParts = true)
    (kcParts : PySem.W.keepIn K (.ref cParts) = true)
    (pgParts : PySem.W.plainGet K cParts Str.empty = true)
    (hdParts : PySem.W.hasDictIn K cParts = true)
    (poParts : PySem.W.plainOver K cParts = true)
    (saParts : PySem.W.findIn K (.ref cParts) "__setattr__" = some (some (.builtin "object.__setattr__")))
    (nParts_held : PySem.W.findIn K (.ref cParts) "held" = some none)
    (haParts : PySem.W.findIn K (.ref cParts) "__class__" = some (some (.builtin "object.__class__")))
    (hmParts : PySem.W.mroIn K cParts (.type "object") = some true)
    (uTable : PySem.W.nsIn K mainGlobals "Table" = some (some (.ref cTable)))
    (mkTable : PySem.W.makesIn K cTable = true)
    (kcTable : PySem.W.keepIn K (.ref cTable) = true)
    (pgTable : PySem.W.plainGet K cTable Str.empty = true)
    (hdTable : PySem.W.hasDictIn K cTable = true)
    (poTable : PySem.W.plainOver K cTable = true)
    (saTable : PySem.W.findIn K (.ref cTable) "__setattr__" = some (some (.builtin "object.__setattr__")))
    (nTable__entries : PySem.W.findIn K (.ref cTable) "_entries" = some none)
    (haTable : PySem.W.findIn K (.ref cTable) "__class__" = some (some (.builtin "object.__class__")))
    (hmTable : PySem.W.mroIn K cTable (.type "object") = some true)
    (uInstance : PySem.W.nsIn K mainGlobals "Instance" = some (some (.ref cInstance)))
    (mkInstance : PySem.W.makesIn K cInstance = true)
    (kcInstance : PySem.W.keepIn K (.ref cInstance) = true)
    (pgInstance : PySem.W.plainGet K cInstance Str.empty = true)
    (hdInstance : PySem.W.hasDictIn K cInstance = true)
    (poInstance : PySem.W.plainOver K cInstance = true)
    (saInstance : PySem.W.findIn K (.ref cInstance) "__setattr__" = some (some (.builtin "object.__setattr__")))
    (haInstance : PySem.W.findIn K (.ref cInstance) "__class__" = some (some (.builtin "object.__class__")))
    (hmInstance : PySem.W.mroIn K cInstance (.type "object") = some true)
    (uKin : PySem.W.nsIn K mainGlobals "Kin" = some (some (.ref cKin)))
    (mkKin : PySem.W.makesIn K cKin = true)
    (kcKin : PySem.W.keepIn K (.ref cKin) = true)
    (pgKin : PySem.W.plainGet K cKin Str.empty = true)
    (hdKin : PySem.W.hasDictIn K cKin = true)
    (poKin : PySem.W.plainOver K cKin = true)
    (saKin : PySem.W.findIn K (.ref cKin) "__setattr__" = some (some (.builtin "object.__setattr__")))
    (nKin_name : PySem.W.findIn K (.ref cKin) "name" = some none)
    (nKin_parent : PySem.W.findIn K (.ref cKin) "parent" = some none)
    (nKin_methods : PySem.W.findIn K (.ref cKin) "methods" = some none)
    (haKin : PySem.W.findIn K (.ref cKin) "__class__" = some (some (.builtin "object.__class__")))
    (hmKin : PySem.W.mroIn K cKin (.type "object") = some true)
    (uStore : PySem.W.nsIn K mainGlobals "Store" = some (some (.ref cStore)))
    (mkStore : PySem.W.makesIn K cStore = true)
    (kcStore : PySem.W.keepIn K (.ref cStore) = true)
    (pgStore : PySem.W.plainGet K cStore Str.empty = true)
    (hdStore : PySem.W.hasDictIn K cStore = true)
    (poStore : PySem.W.plainOver K cStore = true)
    (saStore : PySem.W.findIn K (.ref cStore) "__setattr__" = some (some (.builtin "object.__setattr__")))
    (nStore_things : PySem.W.findIn K (.ref cStore) "things" = some none)
    (nStore_output : PySem.W.findIn K (.ref cStore) "output" = some none)
    (nStore_lines : PySem.W.findIn K (.ref cStore) "lines" = some none)
    (nStore_taken : PySem.W.findIn K (.ref cStore) "taken" = some none)
    (haStore : PySem.W.findIn K (.ref cStore) "__class__" = some (some (.builtin "object.__class__")))
    (hmStore : PySem.W.mroIn K cStore (.type "object") = some true)
    (uLivequillError : PySem.W.nsIn K mainGlobals "LivequillError" = some (some (.ref cLivequillError)))
    (uScriptError : PySem.W.nsIn K mainGlobals "ScriptError" = some (some (.ref cScriptError)))
    (xScriptError : K.lookup cScriptError = some (excClassObj nmScriptError qScriptError cScriptError NScriptError bsScriptError [.ref cLivequillError, .type "ValueError", .type "Exception", .type "BaseException", .type "object"] true snScriptError subScriptError abScriptError colScriptError ddScriptError m0ScriptError m1ScriptError m2ScriptError m3ScriptError m5ScriptError "ValueError.__new__"))
    (saScriptError : PySem.W.findIn K (.ref cScriptError) "__setattr__" = some (some (.builtin "object.__setattr__")))
    (exScriptError : PySem.W.subIn K (.ref cScriptError) (.type "BaseException") = some true)
    (tpScriptError : PySem.W.typeIn K (.ref cScriptError) = some (.type "type"))
    (kpScriptError : PySem.W.keepIn K (.ref cScriptError) = true)
    (n1ScriptError : PySem.W.findIn K (.ref cScriptError) "kind" = some none)
    (n2ScriptError : PySem.W.findIn K (.ref cScriptError) "message" = some none)
    (iScriptError : PySem.W.findIn K (.ref cScriptError) "__init__" = some (some (.ref fScriptError)))
    (tiScriptError : PySem.W.typeIn K (.ref fScriptError) = some (.type "function"))
    (gaScriptError : PySem.W.findIn K (.ref cScriptError) "__getattribute__" = some (some (.builtin "BaseException.__getattribute__")))
    (ggScriptError : PySem.W.findIn K (.ref cScriptError) "__getattr__" = some none)
    (hdScriptError : PySem.W.hasDictIn K cScriptError = true)
    (ssScriptError : PySem.W.subIn K (.ref cScriptError) (.ref cScriptError) = some true)
    (liScriptError : K.lookup fScriptError = some ⟨ocScriptError, odScriptError, .func (PySem.W.ksFn "__init__" "ScriptError.__init__" (defArgs sx_ScriptError) (defBody sx_ScriptError) (defScope sx_ScriptError) .none kVScriptError dcScriptError pmScriptError anScriptError (.ref cdaScriptError) ctScriptError ccScriptError), slScriptError⟩)
    (ciScriptError : PySem.W.codeIn K (.ref cdaScriptError) "ScriptError.__init__" = true)
    (coScriptError : K.lookup cdaScriptError = some ⟨cclScriptError, cddScriptError, .fields cvsScriptError, ccsScriptError⟩)
    (cvScriptError : cvsScriptError[2]? = some (.str flScriptError tfScriptError))
    (fiScriptError : ((l.prog.main.file : Str) == flScriptError) = true)
    (ceScriptError : K.lookup ccScriptError = some ⟨cl_ScriptError, cldScriptError, .cell (some (.ref cScriptError)), cslScriptError⟩)
    (toSup : (l.prog.main.scope.names.lookup ("super" : Str)).isSome = false)
    (suSup : PySem.W.nsIn K mainGlobals "super" = some none)
    (opSup : PySem.W.nsIn K PySem.cStatics "thirdparty.any" = some none)
    (mrScriptError : PySem.W.mroIn K cScriptError (.ref cScriptError) = some true)
    (ksScriptError : PySem.W.ks_superIn K cScriptError cScriptError "__init__" = some (some (.builtin "ValueError.__init__")))
    (vaScriptError : PySem.W.subIn K (.ref cScriptError) (.type "ValueError") = some true)
    (haScriptError : PySem.W.findIn K (.ref cScriptError) "__class__" = some (some (.builtin "object.__class__")))
    (hmScriptError : PySem.W.mroIn K cScriptError (.type "object") = some true)
    (klScriptErrorLivequillError : PySem.W.kitOne K (.ref cScriptError) (.ref cLivequillError) = some true)
    (af_tagged : PySem.W.nsIn K mainGlobals "tagged" = some (some (.ref a_tagged)))
    (lf_tagged : K.lookup a_tagged = some ⟨ocf_tagged, odf_tagged, .func (PySem.W.fnOf "tagged" "tagged" (defArgs s_tagged) (defBody s_tagged) (defScope s_tagged) .none kVf_tagged dcf_tagged pmf_tagged anf_tagged cdf_tagged ctf_tagged), slf_tagged⟩)
    (cf_tagged : PySem.W.codeIn K cdf_tagged "tagged" = true)
    (kf_tagged : PySem.W.keepIn K (.ref a_tagged) = true)
    (af_kind_of : PySem.W.nsIn K mainGlobals "kind_of" = some (some (.ref a_kind_of)))
    (lf_kind_of : K.lookup a_kind_of = some ⟨ocf_kind_of, odf_kind_of, .func (PySem.W.fnOf "kind_of" "kind_of" (defArgs s_kind_of) (defBody s_kind_of) (defScope s_kind_of) .none kVf_kind_of dcf_kind_of pmf_kind_of anf_kind_of cdf_kind_of ctf_kind_of), slf_kind_of⟩)
    (cf_kind_of : PySem.W.codeIn K cdf_kind_of "kind_of" = true)
    (kf_kind_of : PySem.W.keepIn K (.ref a_kind_of) = true)
    (af_kind_of_thing : PySem.W.nsIn K mainGlobals "kind_of_thing" = some (some (.ref a_kind_of_thing)))
    (lf_kind_of_thing : K.lookup a_kind_of_thing = some ⟨ocf_kind_of_thing, odf_kind_of_thing, .func (PySem.W.fnOf "kind_of_thing" "kind_of_thing" (defArgs s_kind_of_thing) (defBody s_kind_of_thing) (defScope s_kind_of_thing) .none kVf_kind_of_thing dcf_kind_of_thing pmf_kind_of_thing anf_kind_of_thing cdf_kind_of_thing ctf_kind_of_thing), slf_kind_of_thing⟩)
    (cf_kind_of_thing : PySem.W.codeIn K cdf_kind_of_thing "kind_of_thing" = true)
    (kf_kind_of_thing : PySem.W.keepIn K (.ref a_kind_of_thing) = true)
    (af_is_key : PySem.W.nsIn K mainGlobals "is_key" = some (some (.ref a_is_key)))
    (lf_is_key : K.lookup a_is_key = some ⟨ocf_is_key, odf_is_key, .func (PySem.W.fnOf "is_key" "is_key" (defArgs s_is_key) (defBody s_is_key) (defScope s_is_key) .none kVf_is_key dcf_is_key pmf_is_key anf_is_key cdf_is_key ctf_is_key), slf_is_key⟩)
    (cf_is_key : PySem.W.codeIn K cdf_is_key "is_key" = true)
    (kf_is_key : PySem.W.keepIn K (.ref a_is_key) = true)
    (af_check_size : PySem.W.nsIn K mainGlobals "check_size" = some (some (.ref a_check_size)))
    (lf_check_size : K.lookup a_check_size = some ⟨ocf_check_size, odf_check_size, .func (PySem.W.fnOf "check_size" "check_size" (defArgs s_check_size) (defBody s_check_size) (defScope s_check_size) .none kVf_check_size dcf_check_size pmf_check_size anf_check_size cdf_check_size ctf_check_size), slf_check_size⟩)
    (cf_check_size : PySem.W.codeIn K cdf_check_size "check_size" = true)
    (kf_check_size : PySem.W.keepIn K (.ref a_check_size) = true)
    (af_check_count : PySem.W.nsIn K mainGlobals "check_count" = some (some (.ref a_check_count)))
    (lf_check_count : K.lookup a_check_count = some ⟨ocf_check_count, odf_check_count, .func (PySem.W.fnOf "check_count" "check_count" (defArgs s_check_count) (defBody s_check_count) (defScope s_check_count) .none kVf_check_count dcf_check_count pmf_check_count anf_check_count cdf_check_count ctf_check_count), slf_check_count⟩)
    (cf_check_count : PySem.W.codeIn K cdf_check_count "check_count" = true)
    (kf_check_count : PySem.W.keepIn K (.ref a_check_count) = true)
    (af_check_arguments : PySem.W.nsIn K mainGlobals "check_arguments" = some (some (.ref a_check_arguments)))
    (lf_check_arguments : K.lookup a_check_arguments = some ⟨ocf_check_arguments, odf_check_arguments, .func (PySem.W.fnOf "check_arguments" "check_arguments" (defArgs s_check_arguments) (defBody s_check_arguments) (defScope s_check_arguments) .none kVf_check_arguments dcf_check_arguments pmf_check_arguments anf_check_arguments cdf_check_arguments ctf_check_arguments), slf_check_arguments⟩)
    (cf_check_arguments : PySem.W.codeIn K cdf_check_arguments "check_arguments" = true)
    (kf_check_arguments : PySem.W.keepIn K (.ref a_check_arguments) = true)
    (af_check_kind : PySem.W.nsIn K mainGlobals "check_kind" = some (some (.ref a_check_kind)))
    (lf_check_kind : K.lookup a_check_kind = some ⟨ocf_check_kind, odf_check_kind, .func (PySem.W.fnOf "check_kind" "check_kind" (defArgs s_check_kind) (defBody s_check_kind) (defScope s_check_kind) .none kVf_check_kind dcf_check_kind pmf_check_kind anf_check_kind cdf_check_kind ctf_check_kind), slf_check_kind⟩)
    (cf_check_kind : PySem.W.codeIn K cdf_check_kind "check_kind" = true)
    (kf_check_kind : PySem.W.keepIn K (.ref a_check_kind) = true)
    (af_get_item : PySem.W.nsIn K mainGlobals "get_item" = some (some (.ref a_get_item)))
    (lf_get_item : K.lookup a_get_item = some ⟨ocf_get_item, odf_get_item, .func (PySem.W.fnOf "get_item" "get_item" (defArgs s_get_item) (defBody s_get_item) (defScope s_get_item) .none kVf_get_item dcf_get_item pmf_get_item anf_get_item cdf_get_item ctf_get_item), slf_get_item⟩)
    (cf_get_item : PySem.W.codeIn K cdf_get_item "get_item" = true)
    (kf_get_item : PySem.W.keepIn K (.ref a_get_item) = true)
    (af_value_at : PySem.W.nsIn K mainGlobals "value_at" = some (some (.ref a_value_at)))
    (lf_value_at : K.lookup a_value_at = some ⟨ocf_value_at, odf_value_at, .func (PySem.W.fnOf "value_at" "value_at" (defArgs s_value_at) (defBody s_value_at) (defScope s_value_at) .none kVf_value_at dcf_value_at pmf_value_at anf_value_at cdf_value_at ctf_value_at), slf_value_at⟩)
    (cf_value_at : PySem.W.codeIn K cdf_value_at "value_at" = true)
    (kf_value_at : PySem.W.keepIn K (.ref a_value_at) = true)
    (af_set_item : PySem.W.nsIn K mainGlobals "set_item" = some (some (.ref a_set_item)))
    (lf_set_item : K.lookup a_set_item = some ⟨ocf_set_item, odf_set_item, .func (PySem.W.fnOf "set_item" "set_item" (defArgs s_set_item) (defBody s_set_item) (defScope s_set_item) .none kVf_set_item dcf_set_item pmf_set_item anf_set_item cdf_set_item ctf_set_item), slf_set_item⟩)
    (cf_set_item : PySem.W.codeIn K cdf_set_item "set_item" = true)
    (kf_set_item : PySem.W.keepIn K (.ref a_set_item) = true)
    (af_check_key : PySem.W.nsIn K mainGlobals "check_key" = some (some (.ref a_check_key)))
    (lf_check_key : K.lookup a_check_key = some ⟨ocf_check_key, odf_check_key, .func (PySem.W.fnOf "check_key" "check_key" (defArgs s_check_key) (defBody s_check_key) (defScope s_check_key) .none kVf_check_key dcf_check_key pmf_check_key anf_check_key cdf_check_key ctf_check_key), slf_check_key⟩)
    (cf_check_key : PySem.W.codeIn K cdf_check_key "check_key" = true)
    (kf_check_key : PySem.W.keepIn K (.ref a_check_key) = true)
    (af_put_entry : PySem.W.nsIn K mainGlobals "put_entry" = some (some (.ref a_put_entry)))
    (lf_put_entry : K.lookup a_put_entry = some ⟨ocf_put_entry, odf_put_entry, .func (PySem.W.fnOf "put_entry" "put_entry" (defArgs s_put_entry) (defBody s_put_entry) (defScope s_put_entry) .none kVf_put_entry dcf_put_entry pmf_put_entry anf_put_entry cdf_put_entry ctf_put_entry), slf_put_entry⟩)
    (cf_put_entry : PySem.W.codeIn K cdf_put_entry "put_entry" = true)
    (kf_put_entry : PySem.W.keepIn K (.ref a_put_entry) = true)
    (af_make_list : PySem.W.nsIn K mainGlobals "make_list" = some (some (.ref a_make_list)))
    (lf_make_list : K.lookup a_make_list = some ⟨ocf_make_list, odf_make_list, .func (PySem.W.fnOf "make_list" "make_list" (defArgs s_make_list) (defBody s_make_list) (defScope s_make_list) .none kVf_make_list dcf_make_list pmf_make_list anf_make_list cdf_make_list ctf_make_list), slf_make_list⟩)
    (cf_make_list : PySem.W.codeIn K cdf_make_list "make_list" = true)
    (kf_make_list : PySem.W.keepIn K (.ref a_make_list) = true)
    (af_make_map : PySem.W.nsIn K mainGlobals "make_map" = some (some (.ref a_make_map)))
    (lf_make_map : K.lookup a_make_map = some ⟨ocf_make_map, odf_make_map, .func (PySem.W.fnOf "make_map" "make_map" (defArgs s_make_map) (defBody s_make_map) (defScope s_make_map) .none kVf_make_map dcf_make_map pmf_make_map anf_make_map cdf_make_map ctf_make_map), slf_make_map⟩)
    (cf_make_map : PySem.W.codeIn K cdf_make_map "make_map" = true)
    (kf_make_map : PySem.W.keepIn K (.ref a_make_map) = true)
    (af_make_pairs : PySem.W.nsIn K mainGlobals "make_pairs" = some (some (.ref a_make_pairs)))
    (lf_make_pairs : K.lookup a_make_pairs = some ⟨ocf_make_pairs, odf_make_pairs, .func (PySem.W.fnOf "make_pairs" "make_pairs" (defArgs s_make_pairs) (defBody s_make_pairs) (defScope s_make_pairs) .none kVf_make_pairs dcf_make_pairs pmf_make_pairs anf_make_pairs cdf_make_pairs ctf_make_pairs), slf_make_pairs⟩)
    (cf_make_pairs : PySem.W.codeIn K cdf_make_pairs "make_pairs" = true)
    (kf_make_pairs : PySem.W.keepIn K (.ref a_make_pairs) = true)
    (af_has : PySem.W.nsIn K mainGlobals "has" = some (some (.ref a_has)))
    (lf_has : K.lookup a_has = some ⟨ocf_has, odf_has, .func (PySem.W.fnOf "has" "has" (defArgs s_has) (defBody s_has) (defScope s_has) .none kVf_has dcf_has pmf_has anf_has cdf_has ctf_has), slf_has⟩)
    (cf_has : PySem.W.codeIn K cdf_has "has" = true)
    (kf_has : PySem.W.keepIn K (.ref a_has) = true)
    (af_keys_of : PySem.W.nsIn K mainGlobals "keys_of" = some (some (.ref a_keys_of)))
    (lf_keys_of : K.lookup a_keys_of = some ⟨ocf_keys_of, odf_keys_of, .func (PySem.W.fnOf "keys_of" "keys_of" (defArgs s_keys_of) (defBody s_keys_of) (defScope s_keys_of) .none kVf_keys_of dcf_keys_of pmf_keys_of anf_keys_of cdf_keys_of ctf_keys_of), slf_keys_of⟩)
    (cf_keys_of : PySem.W.codeIn K cdf_keys_of "keys_of" = true)
    (kf_keys_of : PySem.W.keepIn K (.ref a_keys_of) = true)
    (af_values_of : PySem.W.nsIn K mainGlobals "values_of" = some (some (.ref a_values_of)))
    (lf_values_of : K.lookup a_values_of = some ⟨ocf_values_of, odf_values_of, .func (PySem.W.fnOf "values_of" "values_of" (defArgs s_values_of) (defBody s_values_of) (defScope s_values_of) .none kVf_values_of dcf_values_of pmf_values_of anf_values_of cdf_values_of ctf_values_of), slf_values_of⟩)
    (cf_values_of : PySem.W.codeIn K cdf_values_of "values_of" = true)
    (kf_values_of : PySem.W.keepIn K (.ref a_values_of) = true)
    (af_entries : PySem.W.nsIn K mainGlobals "entries" = some (some (.ref a_entries)))
    (lf_entries : K.lookup a_entries = some ⟨ocf_entries, odf_entries, .func (PySem.W.fnOf "entries" "entries" (defArgs s_entries) (defBody s_entries) (defScope s_entries) .none kVf_entries dcf_entries pmf_entries anf_entries cdf_entries ctf_entries), slf_entries⟩)
    (cf_entries : PySem.W.codeIn K cdf_entries "entries" = true)
    (kf_entries : PySem.W.keepIn K (.ref a_entries) = true)
    (af_get : PySem.W.nsIn K mainGlobals "get" = some (some (.ref a_get)))
    (lf_get : K.lookup a_get = some ⟨ocf_get, odf_get, .func (PySem.W.fnOf "get" "get" (defArgs s_get) (defBody s_get) (defScope s_get) .none kVf_get dcf_get pmf_get anf_get cdf_get ctf_get), slf_get⟩)
    (cf_get : PySem.W.codeIn K cdf_get "get" = true)
    (kf_get : PySem.W.keepIn K (.ref a_get) = true)
    (af_merge : PySem.W.nsIn K mainGlobals "merge" = some (some (.ref a_merge)))
    (lf_merge : K.lookup a_merge = some ⟨ocf_merge, odf_merge, .func (PySem.W.fnOf "merge" "merge" (defArgs s_merge) (defBody s_merge) (defScope s_merge) .none kVf_merge dcf_merge pmf_merge anf_merge cdf_merge ctf_merge), slf_merge⟩)
    (cf_merge : PySem.W.codeIn K cdf_merge "merge" = true)
    (kf_merge : PySem.W.keepIn K (.ref a_merge) = true)
    (af_clear : PySem.W.nsIn K mainGlobals "clear" = some (some (.ref a_clear)))
    (lf_clear : K.lookup a_clear = some ⟨ocf_clear, odf_clear, .func (PySem.W.fnOf "clear" "clear" (defArgs s_clear) (defBody s_clear) (defScope s_clear) .none kVf_clear dcf_clear pmf_clear anf_clear cdf_clear ctf_clear), slf_clear⟩)
    (cf_clear : PySem.W.codeIn K cdf_clear "clear" = true)
    (kf_clear : PySem.W.keepIn K (.ref a_clear) = true)
    (af_call_method : PySem.W.nsIn K mainGlobals "call_method" = some (some (.ref a_call_method)))
    (lf_call_method : K.lookup a_call_method = some ⟨ocf_call_method, odf_call_method, .func (PySem.W.fnOf "call_method" "call_method" (defArgs s_call_method) (defBody s_call_method) (defScope s_call_method) .none kVf_call_method dcf_call_method pmf_call_method anf_call_method cdf_call_method ctf_call_method), slf_call_method⟩)
    (cf_call_method : PySem.W.codeIn K cdf_call_method "call_method" = true)
    (kf_call_method : PySem.W.keepIn K (.ref a_call_method) = true)
    (af_method_for : PySem.W.nsIn K mainGlobals "method_for" = some (some (.ref a_method_for)))
    (lf_method_for : K.lookup a_method_for = some ⟨ocf_method_for, odf_method_for, .func (PySem.W.fnOf "method_for" "method_for" (defArgs s_method_for) (defBody s_method_for) (defScope s_method_for) .none kVf_method_for dcf_method_for pmf_method_for anf_method_for cdf_method_for ctf_method_for), slf_method_for⟩)
    (cf_method_for : PySem.W.codeIn K cdf_method_for "method_for" = true)
    (kf_method_for : PySem.W.keepIn K (.ref a_method_for) = true)
    (af_law_cell : PySem.W.nsIn K mainGlobals "_law_cell" = some (some (.ref a_law_cell)))
    (lf_law_cell : K.lookup a_law_cell = some ⟨ocf_law_cell, odf_law_cell, .func (PySem.W.fnOf "_law_cell" "_law_cell" (defArgs s_law_cell) (defBody s_law_cell) (defScope s_law_cell) .none kVf_law_cell dcf_law_cell pmf_law_cell anf_law_cell cdf_law_cell ctf_law_cell), slf_law_cell⟩)
    (cf_law_cell : PySem.W.codeIn K cdf_law_cell "_law_cell" = true)
    (kf_law_cell : PySem.W.keepIn K (.ref a_law_cell) = true)
    (af_law_begin : PySem.W.nsIn K mainGlobals "_law_begin" = some (some (.ref a_law_begin)))
    (lf_law_begin : K.lookup a_law_begin = some ⟨ocf_law_begin, odf_law_begin, .func (PySem.W.fnOf "_law_begin" "_law_begin" (defArgs s_law_begin) (defBody s_law_begin) (defScope s_law_begin) .none kVf_law_begin dcf_law_begin pmf_law_begin anf_law_begin cdf_law_begin ctf_law_begin), slf_law_begin⟩)
    (cf_law_begin : PySem.W.codeIn K cdf_law_begin "_law_begin" = true)
    (kf_law_begin : PySem.W.keepIn K (.ref a_law_begin) = true)
    (af_law_draw : PySem.W.nsIn K mainGlobals "_law_draw" = some (some (.ref a_law_draw)))
    (lf_law_draw : K.lookup a_law_draw = some ⟨ocf_law_draw, odf_law_draw, .func (PySem.W.fnOf "_law_draw" "_law_draw" (defArgs s_law_draw) (defBody s_law_draw) (defScope s_law_draw) .none kVf_law_draw dcf_law_draw pmf_law_draw anf_law_draw cdf_law_draw ctf_law_draw), slf_law_draw⟩)
    (cf_law_draw : PySem.W.codeIn K cdf_law_draw "_law_draw" = true)
    (kf_law_draw : PySem.W.keepIn K (.ref a_law_draw) = true)
    (af_law_pick : PySem.W.nsIn K mainGlobals "_law_pick" = some (some (.ref a_law_pick)))
    (lf_law_pick : K.lookup a_law_pick = some ⟨ocf_law_pick, odf_law_pick, .func (PySem.W.fnOf "_law_pick" "_law_pick" (defArgs s_law_pick) (defBody s_law_pick) (defScope s_law_pick) .none kVf_law_pick dcf_law_pick pmf_law_pick anf_law_pick cdf_law_pick ctf_law_pick), slf_law_pick⟩)
    (cf_law_pick : PySem.W.codeIn K cdf_law_pick "_law_pick" = true)
    (kf_law_pick : PySem.W.keepIn K (.ref a_law_pick) = true)
    (af_law_key : PySem.W.nsIn K mainGlobals "_law_key" = some (some (.ref a_law_key)))
    (lf_law_key : K.lookup a_law_key = some ⟨ocf_law_key, odf_law_key, .func (PySem.W.fnOf "_law_key" "_law_key" (defArgs s_law_key) (defBody s_law_key) (defScope s_law_key) .none kVf_law_key dcf_law_key pmf_law_key anf_law_key cdf_law_key ctf_law_key), slf_law_key⟩)
    (cf_law_key : PySem.W.codeIn K cdf_law_key "_law_key" = true)
    (kf_law_key : PySem.W.keepIn K (.ref a_law_key) = true)
    (af_law_same : PySem.W.nsIn K mainGlobals "_law_same" = some (some (.ref a_law_same)))
    (lf_law_same : K.lookup a_law_same = some ⟨ocf_law_same, odf_law_same, .func (PySem.W.fnOf "_law_same" "_law_same" (defArgs s_law_same) (defBody s_law_same) (defScope s_law_same) .none kVf_law_same dcf_law_same pmf_law_same anf_law_same cdf_law_same ctf_law_same), slf_law_same⟩)
    (cf_law_same : PySem.W.codeIn K cdf_law_same "_law_same" = true)
    (kf_law_same : PySem.W.keepIn K (.ref a_law_same) = true)
    (af_law_at : PySem.W.nsIn K mainGlobals "_law_at" = some (some (.ref a_law_at)))
    (lf_law_at : K.lookup a_law_at = some ⟨ocf_law_at, odf_law_at, .func (PySem.W.fnOf "_law_at" "_law_at" (defArgs s_law_at) (defBody s_law_at) (defScope s_law_at) .none kVf_law_at dcf_law_at pmf_law_at anf_law_at cdf_law_at ctf_law_at), slf_law_at⟩)
    (cf_law_at : PySem.W.codeIn K cdf_law_at "_law_at" = true)
    (kf_law_at : PySem.W.keepIn K (.ref a_law_at) = true)
    (af_law_put : PySem.W.nsIn K mainGlobals "_law_put" = some (some (.ref a_law_put)))
    (lf_law_put : K.lookup a_law_put = some ⟨ocf_law_put, odf_law_put, .func (PySem.W.fnOf "_law_put" "_law_put" (defArgs s_law_put) (defBody s_law_put) (defScope s_law_put) .none kVf_law_put dcf_law_put pmf_law_put anf_law_put cdf_law_put ctf_law_put), slf_law_put⟩)
    (cf_law_put : PySem.W.codeIn K cdf_law_put "_law_put" = true)
    (kf_law_put : PySem.W.keepIn K (.ref a_law_put) = true)
    (af_law_pairs : PySem.W.nsIn K mainGlobals "_law_pairs" = some (some (.ref a_law_pairs)))
    (lf_law_pairs : K.lookup a_law_pairs = some ⟨ocf_law_pairs, odf_law_pairs, .func (PySem.W.fnOf "_law_pairs" "_law_pairs" (defArgs s_law_pairs) (defBody s_law_pairs) (defScope s_law_pairs) .none kVf_law_pairs dcf_law_pairs pmf_law_pairs anf_law_pairs cdf_law_pairs ctf_law_pairs), slf_law_pairs⟩)
    (cf_law_pairs : PySem.W.codeIn K cdf_law_pairs "_law_pairs" = true)
    (kf_law_pairs : PySem.W.keepIn K (.ref a_law_pairs) = true)
    (af_law_try : PySem.W.nsIn K mainGlobals "_law_try" = some (some (.ref a_law_try)))
    (lf_law_try : K.lookup a_law_try = some ⟨ocf_law_try, odf_law_try, .func (PySem.W.fnOf "_law_try" "_law_try" (defArgs s_law_try) (defBody s_law_try) (defScope s_law_try) .none kVf_law_try dcf_law_try pmf_law_try anf_law_try cdf_law_try ctf_law_try), slf_law_try⟩)
    (cf_law_try : PySem.W.codeIn K cdf_law_try "_law_try" = true)
    (kf_law_try : PySem.W.keepIn K (.ref a_law_try) = true)
    (af_law_is : PySem.W.nsIn K mainGlobals "_law_is" = some (some (.ref a_law_is)))
    (lf_law_is : K.lookup a_law_is = some ⟨ocf_law_is, odf_law_is, .func (PySem.W.fnOf "_law_is" "_law_is" (defArgs s_law_is) (defBody s_law_is) (defScope s_law_is) .none kVf_law_is dcf_law_is pmf_law_is anf_law_is cdf_law_is ctf_law_is), slf_law_is⟩)
    (cf_law_is : PySem.W.codeIn K cdf_law_is "_law_is" = true)
    (kf_law_is : PySem.W.keepIn K (.ref a_law_is) = true)
    (af_law_taken : PySem.W.nsIn K mainGlobals "_law_taken" = some (some (.ref a_law_taken)))
    (lf_law_taken : K.lookup a_law_taken = some ⟨ocf_law_taken, odf_law_taken, .func (PySem.W.fnOf "_law_taken" "_law_taken" (defArgs s_law_taken) (defBody s_law_taken) (defScope s_law_taken) .none kVf_law_taken dcf_law_taken pmf_law_taken anf_law_taken cdf_law_taken ctf_law_taken), slf_law_taken⟩)
    (cf_law_taken : PySem.W.codeIn K cdf_law_taken "_law_taken" = true)
    (kf_law_taken : PySem.W.keepIn K (.ref a_law_taken) = true)
    (af_law_set : PySem.W.nsIn K mainGlobals "_law_set" = some (some (.ref a_law_set)))
    (lf_law_set : K.lookup a_law_set = some ⟨ocf_law_set, odf_law_set, .func (PySem.W.fnOf "_law_set" "_law_set" (defArgs s_law_set) (defBody s_law_set) (defScope s_law_set) .none kVf_law_set dcf_law_set pmf_law_set anf_law_set cdf_law_set ctf_law_set), slf_law_set⟩)
    (cf_law_set : PySem.W.codeIn K cdf_law_set "_law_set" = true)
    (kf_law_set : PySem.W.keepIn K (.ref a_law_set) = true)
    (af_law_read : PySem.W.nsIn K mainGlobals "_law_read" = some (some (.ref a_law_read)))
    (lf_law_read : K.lookup a_law_read = some ⟨ocf_law_read, odf_law_read, .func (PySem.W.fnOf "_law_read" "_law_read" (defArgs s_law_read) (defBody s_law_read) (defScope s_law_read) .none kVf_law_read dcf_law_read pmf_law_read anf_law_read cdf_law_read ctf_law_read), slf_law_read⟩)
    (cf_law_read : PySem.W.codeIn K cdf_law_read "_law_read" = true)
    (kf_law_read : PySem.W.keepIn K (.ref a_law_read) = true)
    (af_law_listed : PySem.W.nsIn K mainGlobals "_law_listed" = some (some (.ref a_law_listed)))
    (lf_law_listed : K.lookup a_law_listed = some ⟨ocf_law_listed, odf_law_listed, .func (PySem.W.fnOf "_law_listed" "_law_listed" (defArgs s_law_listed) (defBody s_law_listed) (defScope s_law_listed) .none kVf_law_listed dcf_law_listed pmf_law_listed anf_law_listed cdf_law_listed ctf_law_listed), slf_law_listed⟩)
    (cf_law_listed : PySem.W.codeIn K cdf_law_listed "_law_listed" = true)
    (kf_law_listed : PySem.W.keepIn K (.ref a_law_listed) = true)
    (af_law_merged : PySem.W.nsIn K mainGlobals "_law_merged" = some (some (.ref a_law_merged)))
    (lf_law_merged : K.lookup a_law_merged = some ⟨ocf_law_merged, odf_law_merged, .func (PySem.W.fnOf "_law_merged" "_law_merged" (defArgs s_law_merged) (defBody s_law_merged) (defScope s_law_merged) .none kVf_law_merged dcf_law_merged pmf_law_merged anf_law_merged cdf_law_merged ctf_law_merged), slf_law_merged⟩)
    (cf_law_merged : PySem.W.codeIn K cdf_law_merged "_law_merged" = true)
    (kf_law_merged : PySem.W.keepIn K (.ref a_law_merged) = true)
    (af_law_step : PySem.W.nsIn K mainGlobals "_law_step" = some (some (.ref a_law_step)))
    (lf_law_step : K.lookup a_law_step = some ⟨ocf_law_step, odf_law_step, .func (PySem.W.fnOf "_law_step" "_law_step" (defArgs s_law_step) (defBody s_law_step) (defScope s_law_step) .none kVf_law_step dcf_law_step pmf_law_step anf_law_step cdf_law_step ctf_law_step), slf_law_step⟩)
    (cf_law_step : PySem.W.codeIn K cdf_law_step "_law_step" = true)
    (kf_law_step : PySem.W.keepIn K (.ref a_law_step) = true)
    (alaw : PySem.W.nsIn K mainGlobals "law" = some (some (.ref a_law)))
    (llaw : K.lookup a_law = some ⟨oclaw, odlaw, .func (PySem.W.fnOf "law" "law" (defArgs s_law) (defBody s_law) (defScope s_law) .none kVlaw dclaw pmlaw anlaw cdlaw ctlaw), sllaw⟩)
    (claw : PySem.W.codeIn K cdlaw "law" = true)
    (klaw : PySem.W.keepIn K (.ref a_law) = true)
    (af_take_out_maps : PySem.W.nsIn K mainGlobals "take_out_maps" = some (some (.ref a_take_out_maps)))
    (lf_take_out_maps : K.lookup a_take_out_maps = some ⟨ocf_take_out_maps, odf_take_out_maps, .func (PySem.W.fnOf "take_out" "take_out" (defArgs s_take_out_maps) (defBody s_take_out_maps) (defScope s_take_out_maps) .none kVf_take_out_maps dcf_take_out_maps pmf_take_out_maps anf_take_out_maps cdf_take_out_maps ctf_take_out_maps), slf_take_out_maps⟩)
    (cf_take_out_maps : PySem.W.codeIn K cdf_take_out_maps "take_out" = true)
    (kf_take_out_maps : PySem.W.keepIn K (.ref a_take_out_maps) = true)
    (af_copy_maps : PySem.W.nsIn K mainGlobals "copy_maps" = some (some (.ref a_copy_maps)))
    (lf_copy_maps : K.lookup a_copy_maps = some ⟨ocf_copy_maps, odf_copy_maps, .func (PySem.W.fnOf "copy" "copy" (defArgs s_copy_maps) (defBody s_copy_maps) (defScope s_copy_maps) .none kVf_copy_maps dcf_copy_maps pmf_copy_maps anf_copy_maps cdf_copy_maps ctf_copy_maps), slf_copy_maps⟩)
    (cf_copy_maps : PySem.W.codeIn K cdf_copy_maps "copy" = true)
    (kf_copy_maps : PySem.W.keepIn K (.ref a_copy_maps) = true)
    (af_length_maps : PySem.W.nsIn K mainGlobals "length_maps" = some (some (.ref a_length_maps)))
    (lf_length_maps : K.lookup a_length_maps = some ⟨ocf_length_maps, odf_length_maps, .func (PySem.W.fnOf "length" "length" (defArgs s_length_maps) (defBody s_length_maps) (defScope s_length_maps) .none kVf_length_maps dcf_length_maps pmf_length_maps anf_length_maps cdf_length_maps ctf_length_maps), slf_length_maps⟩)
    (cf_length_maps : PySem.W.codeIn K cdf_length_maps "length" = true)
    (kf_length_maps : PySem.W.keepIn K (.ref a_length_maps) = true)
    (af_Ref_init : PySem.W.findIn K (.ref cRef) "__init__" = some (some (.ref a_Ref_init)))
    (if_Ref_init : PySem.W.isFn K (.ref a_Ref_init) = true)
    (lf_Ref_init : K.lookup a_Ref_init = some ⟨ocf_Ref_init, odf_Ref_init, .func (PySem.W.fnOf "__init__" "Ref.__init__" (defArgs s_Ref_init) (defBody s_Ref_init) (defScope s_Ref_init) .none kVf_Ref_init dcf_Ref_init pmf_Ref_init anf_Ref_init cdf_Ref_init ctf_Ref_init), slf_Ref_init⟩)
    (cf_Ref_init : PySem.W.codeIn K cdf_Ref_init "Ref.__init__" = true)
    (kf_Ref_init : PySem.W.keepIn K (.ref a_Ref_init) = true)
    (af_Ref_eq : PySem.W.findIn K (.ref cRef) "__eq__" = some (some (.ref a_Ref_eq)))
    (if_Ref_eq : PySem.W.isFn K (.ref a_Ref_eq) = true)
    (lf_Ref_eq : K.lookup a_Ref_eq = some ⟨ocf_Ref_eq, odf_Ref_eq, .func (PySem.W.fnOf "__eq__" "Ref.__eq__" (defArgs s_Ref_eq) (defBody s_Ref_eq) (defScope s_Ref_eq) .none kVf_Ref_eq dcf_Ref_eq pmf_Ref_eq anf_Ref_eq cdf_Ref_eq ctf_Ref_eq), slf_Ref_eq⟩)
    (cf_Ref_eq : PySem.W.codeIn K cdf_Ref_eq "Ref.__eq__" = true)
    (kf_Ref_eq : PySem.W.keepIn K (.ref a_Ref_eq) = true)
    (af_Builtin_init : PySem.W.findIn K (.ref cBuiltin) "__init__" = some (some (.ref a_Builtin_init)))
    (if_Builtin_init : PySem.W.isFn K (.ref a_Builtin_init) = true)
    (lf_Builtin_init : K.lookup a_Builtin_init = some ⟨ocf_Builtin_init, odf_Builtin_init, .func (PySem.W.fnOf "__init__" "Builtin.__init__" (defArgs s_Builtin_init) (defBody s_Builtin_init) (defScope s_Builtin_init) .none kVf_Builtin_init dcf_Builtin_init pmf_Builtin_init anf_Builtin_init cdf_Builtin_init ctf_Builtin_init), slf_Builtin_init⟩)
    (cf_Builtin_init : PySem.W.codeIn K cdf_Builtin_init "Builtin.__init__" = true)
    (kf_Builtin_init : PySem.W.keepIn K (.ref a_Builtin_init) = true)
    (af_Builtin_eq : PySem.W.findIn K (.ref cBuiltin) "__eq__" = some (some (.ref a_Builtin_eq)))
    (if_Builtin_eq : PySem.W.isFn K (.ref a_Builtin_eq) = true)
    (lf_Builtin_eq : K.lookup a_Builtin_eq = some ⟨ocf_Builtin_eq, odf_Builtin_eq, .func (PySem.W.fnOf "__eq__" "Builtin.__eq__" (defArgs s_Builtin_eq) (defBody s_Builtin_eq) (defScope s_Builtin_eq) .none kVf_Builtin_eq dcf_Builtin_eq pmf_Builtin_eq anf_Builtin_eq cdf_Builtin_eq ctf_Builtin_eq), slf_Builtin_eq⟩)
    (cf_Builtin_eq : PySem.W.codeIn K cdf_Builtin_eq "Builtin.__eq__" = true)
    (kf_Builtin_eq : PySem.W.keepIn K (.ref a_Builtin_eq) = true)
    (af_Parts_init : PySem.W.findIn K (.ref cParts) "__init__" = some (some (.ref a_Parts_init)))
    (if_Parts_init : PySem.W.isFn K (.ref a_Parts_init) = true)
    (lf_Parts_init : K.lookup a_Parts_init = some ⟨ocf_Parts_init, odf_Parts_init, .func (PySem.W.fnOf "__init__" "Parts.__init__" (defArgs s_Parts_init) (defBody s_Parts_init) (defScope s_Parts_init) .none kVf_Parts_init dcf_Parts_init pmf_Parts_init anf_Parts_init cdf_Parts_init ctf_Parts_init), slf_Parts_init⟩)
    (cf_Parts_init : PySem.W.codeIn K cdf_Parts_init "Parts.__init__" = true)
    (kf_Parts_init : PySem.W.keepIn K (.ref a_Parts_init) = true)
    (af_Table_init : PySem.W.findIn K (.ref cTable) "__init__" = some (some (.ref a_Table_init)))
    (if_Table_init : PySem.W.isFn K (.ref a_Table_init) = true)
    (lf_Table_init : K.lookup a_Table_init = some ⟨ocf_Table_init, odf_Table_init, .func (PySem.W.fnOf "__init__" "Table.__init__" (defArgs s_Table_init) (defBody s_Table_init) (defScope s_Table_init) .none kVf_Table_init dcf_Table_init pmf_Table_init anf_Table_init cdf_Table_init ctf_Table_init), slf_Table_init⟩)
    (cf_Table_init : PySem.W.codeIn K cdf_Table_init "Table.__init__" = true)
    (kf_Table_init : PySem.W.keepIn K (.ref a_Table_init) = true)
    (af_Table_has : PySem.W.findIn K (.ref cTable) "has" = some (some (.ref a_Table_has)))
    (if_Table_has : PySem.W.isFn K (.ref a_Table_has) = true)
    (lf_Table_has : K.lookup a_Table_has = some ⟨ocf_Table_has, odf_Table_has, .func (PySem.W.fnOf "has" "Table.has" (defArgs s_Table_has) (defBody s_Table_has) (defScope s_Table_has) .none kVf_Table_has dcf_Table_has pmf_Table_has anf_Table_has cdf_Table_has ctf_Table_has), slf_Table_has⟩)
    (cf_Table_has : PySem.W.codeIn K cdf_Table_has "Table.has" = true)
    (kf_Table_has : PySem.W.keepIn K (.ref a_Table_has) = true)
    (af_Table_value_of : PySem.W.findIn K (.ref cTable) "value_of" = some (some (.ref a_Table_value_of)))
    (if_Table_value_of : PySem.W.isFn K (.ref a_Table_value_of) = true)
    (lf_Table_value_of : K.lookup a_Table_value_of = some ⟨ocf_Table_value_of, odf_Table_value_of, .func (PySem.W.fnOf "value_of" "Table.value_of" (defArgs s_Table_value_of) (defBody s_Table_value_of) (defScope s_Table_value_of) .none kVf_Table_value_of dcf_Table_value_of pmf_Table_value_of anf_Table_value_of cdf_Table_value_of ctf_Table_value_of), slf_Table_value_of⟩)
    (cf_Table_value_of : PySem.W.codeIn K cdf_Table_value_of "Table.value_of" = true)
    (kf_Table_value_of : PySem.W.keepIn K (.ref a_Table_value_of) = true)
    (af_Table_put : PySem.W.findIn K (.ref cTable) "put" = some (some (.ref a_Table_put)))
    (if_Table_put : PySem.W.isFn K (.ref a_Table_put) = true)
    (lf_Table_put : K.lookup a_Table_put = some ⟨ocf_Table_put, odf_Table_put, .func (PySem.W.fnOf "put" "Table.put" (defArgs s_Table_put) (defBody s_Table_put) (defScope s_Table_put) .none kVf_Table_put dcf_Table_put pmf_Table_put anf_Table_put cdf_Table_put ctf_Table_put), slf_Table_put⟩)
    (cf_Table_put : PySem.W.codeIn K cdf_Table_put "Table.put" = true)
    (kf_Table_put : PySem.W.keepIn K (.ref a_Table_put) = true)
    (af_Table_take_out : PySem.W.findIn K (.ref cTable) "take_out" = some (some (.ref a_Table_take_out)))
    (if_Table_take_out : PySem.W.isFn K (.ref a_Table_take_out) = true)
    (lf_Table_take_out : K.lookup a_Table_take_out = some ⟨ocf_Table_take_out, odf_Table_take_out, .func (PySem.W.fnOf "take_out" "Table.take_out" (defArgs s_Table_take_out) (defBody s_Table_take_out) (defScope s_Table_take_out) .none kVf_Table_take_out dcf_Table_take_out pmf_Table_take_out anf_Table_take_out cdf_Table_take_out ctf_Table_take_out), slf_Table_take_out⟩)
    (cf_Table_take_out : PySem.W.codeIn K cdf_Table_take_out "Table.take_out" = true)
    (kf_Table_take_out : PySem.W.keepIn K (.ref a_Table_take_out) = true)
    (af_Table_pairs : PySem.W.findIn K (.ref cTable) "pairs" = some (some (.ref a_Table_pairs)))
    (if_Table_pairs : PySem.W.isFn K (.ref a_Table_pairs) = true)
    (lf_Table_pairs : K.lookup a_Table_pairs = some ⟨ocf_Table_pairs, odf_Table_pairs, .func (PySem.W.fnOf "pairs" "Table.pairs" (defArgs s_Table_pairs) (defBody s_Table_pairs) (defScope s_Table_pairs) .none kVf_Table_pairs dcf_Table_pairs pmf_Table_pairs anf_Table_pairs cdf_Table_pairs ctf_Table_pairs), slf_Table_pairs⟩)
    (cf_Table_pairs : PySem.W.codeIn K cdf_Table_pairs "Table.pairs" = true)
    (kf_Table_pairs : PySem.W.keepIn K (.ref a_Table_pairs) = true)
    (af_Table_many : PySem.W.findIn K (.ref cTable) "many" = some (some (.ref p_Table_many)))
    (pgtf_Table_many : PySem.W.specialIn K (.ref p_Table_many) "__get__" = some (some (.builtin "property.__get__")))
    (ptkf_Table_many : PySem.W.takesIn K (.ref p_Table_many) = some true)
    (prcf_Table_many : PySem.W.recIn K p_Table_many "property" = some (.ref a_Table_many :: rsf_Table_many))
    (lf_Table_many : K.lookup a_Table_many = some ⟨ocf_Table_many, odf_Table_many, .func (PySem.W.fnOf "many" "Table.many" (defArgs s_Table_many) (defBody s_Table_many) (defScope s_Table_many) .none kVf_Table_many dcf_Table_many pmf_Table_many anf_Table_many cdf_Table_many ctf_Table_many), slf_Table_many⟩)
    (cf_Table_many : PySem.W.codeIn K cdf_Table_many "Table.many" = true)
    (kf_Table_many : PySem.W.keepIn K (.ref a_Table_many) = true)
    (af_Kin_init : PySem.W.findIn K (.ref cKin) "__init__" = some (some (.ref a_Kin_init)))
    (if_Kin_init : PySem.W.isFn K (.ref a_Kin_init) = true)
    (lf_Kin_init : K.lookup a_Kin_init = some ⟨ocf_Kin_init, odf_Kin_init, .func (PySem.W.fnOf "__init__" "Kin.__init__" (defArgs s_Kin_init) (defBody s_Kin_init) (defScope s_Kin_init) .none kVf_Kin_init dcf_Kin_init pmf_Kin_init anf_Kin_init cdf_Kin_init ctf_Kin_init), slf_Kin_init⟩)
    (cf_Kin_init : PySem.W.codeIn K cdf_Kin_init "Kin.__init__" = true)
    (kf_Kin_init : PySem.W.keepIn K (.ref a_Kin_init) = true)
    (af_Store_init : PySem.W.findIn K (.ref cStore) "__init__" = some (some (.ref a_Store_init)))
    (if_Store_init : PySem.W.isFn K (.ref a_Store_init) = true)
    (lf_Store_init : K.lookup a_Store_init = some ⟨ocf_Store_init, odf_Store_init, .func (PySem.W.fnOf "__init__" "Store.__init__" (defArgs s_Store_init) (defBody s_Store_init) (defScope s_Store_init) .none kVf_Store_init dcf_Store_init pmf_Store_init anf_Store_init cdf_Store_init ctf_Store_init), slf_Store_init⟩)
    (cf_Store_init : PySem.W.codeIn K cdf_Store_init "Store.__init__" = true)
    (kf_Store_init : PySem.W.keepIn K (.ref a_Store_init) = true)
    (af_Store_make : PySem.W.findIn K (.ref cStore) "make" = some (some (.ref a_Store_make)))
    (if_Store_make : PySem.W.isFn K (.ref a_Store_make) = true)
    (lf_Store_make : K.lookup a_Store_make = some ⟨ocf_Store_make, odf_Store_make, .func (PySem.W.fnOf "make" "Store.make" (defArgs s_Store_make) (defBody s_Store_make) (defScope s_Store_make) .none kVf_Store_make dcf_Store_make pmf_Store_make anf_Store_make cdf_Store_make ctf_Store_make), slf_Store_make⟩)
    (cf_Store_make : PySem.W.codeIn K cdf_Store_make "Store.make" = true)
    (kf_Store_make : PySem.W.keepIn K (.ref a_Store_make) = true)
    (af_Store_at : PySem.W.findIn K (.ref cStore) "at" = some (some (.ref a_Store_at)))
    (if_Store_at : PySem.W.isFn K (.ref a_Store_at) = true)
    (lf_Store_at : K.lookup a_Store_at = some ⟨ocf_Store_at, odf_Store_at, .func (PySem.W.fnOf "at" "Store.at" (defArgs s_Store_at) (defBody s_Store_at) (defScope s_Store_at) .none kVf_Store_at dcf_Store_at pmf_Store_at anf_Store_at cdf_Store_at ctf_Store_at), slf_Store_at⟩)
    (cf_Store_at : PySem.W.codeIn K cdf_Store_at "Store.at" = true)
    (kf_Store_at : PySem.W.keepIn K (.ref a_Store_at) = true)
    (qMOST_HELD : PySem.W.nsIn K mainGlobals "MOST_HELD" = some (some (.int 1000 tkMOST_HELD)))
    (k_Ref_Builtin : PySem.W.kitOne K (.ref cRef) (.ref cBuiltin) = some false)
    (k_Ref_bool : PySem.W.kitOne K (.ref cRef) (.type "bool") = some false)
    (k_Ref_int : PySem.W.kitOne K (.ref cRef) (.type "int") = some false)
    (k_Ref_str : PySem.W.kitOne K (.ref cRef) (.type "str") = some false)
    (k_Builtin_Ref : PySem.W.kitOne K (.ref cBuiltin) (.ref cRef) = some false)
    (k_Builtin_bool : PySem.W.kitOne K (.ref cBuiltin) (.type "bool") = some false)
    (k_Builtin_int : PySem.W.kitOne K (.ref cBuiltin) (.type "int") = some false)
    (k_Builtin_str : PySem.W.kitOne K (.ref cBuiltin) (.type "str") = some false)
    (k_Parts_Ref : PySem.W.kitOne K (.ref cParts) (.ref cRef) = some false)
    (k_Parts_Table : PySem.W.kitOne K (.ref cParts) (.ref cTable) = some false)
    (k_Parts_Instance : PySem.W.kitOne K (.ref cParts) (.ref cInstance) = some false)
    (k_Parts_Kin : PySem.W.kitOne K (.ref cParts) (.ref cKin) = some false)
    (k_Parts_Builtin : PySem.W.kitOne K (.ref cParts) (.ref cBuiltin) = some false)
    (k_Table_Ref : PySem.W.kitOne K (.ref cTable) (.ref cRef) = some false)
    (k_Table_Parts : PySem.W.kitOne K (.ref cTable) (.ref cParts) = some false)
    (k_Table_Instance : PySem.W.kitOne K (.ref cTable) (.ref cInstance) = some false)
    (k_Table_Kin : PySem.W.kitOne K (.ref cTable) (.ref cKin) = some false)
    (k_Table_Builtin : PySem.W.kitOne K (.ref cTable) (.ref cBuiltin) = some false)
    (k_Instance_Ref : PySem.W.kitOne K (.ref cInstance) (.ref cRef) = some false)
    (k_Instance_Parts : PySem.W.kitOne K (.ref cInstance) (.ref cParts) = some false)
    (k_Instance_Table : PySem.W.kitOne K (.ref cInstance) (.ref cTable) = some false)
    (k_Instance_Kin : PySem.W.kitOne K (.ref cInstance) (.ref cKin) = some false)
    (k_Instance_Builtin : PySem.W.kitOne K (.ref cInstance) (.ref cBuiltin) = some false)
    (k_Kin_Ref : PySem.W.kitOne K (.ref cKin) (.ref cRef) = some false)
    (k_Kin_Parts : PySem.W.kitOne K (.ref cKin) (.ref cParts) = some false)
    (k_Kin_Table : PySem.W.kitOne K (.ref cKin) (.ref cTable) = some false)
    (k_Kin_Instance : PySem.W.kitOne K (.ref cKin) (.ref cInstance) = some false)
    (k_Kin_Builtin : PySem.W.kitOne K (.ref cKin) (.ref cBuiltin) = some false)
    (k_Store_Ref : PySem.W.kitOne K (.ref cStore) (.ref cRef) = some false)
    (k_Store_Builtin : PySem.W.kitOne K (.ref cStore) (.ref cBuiltin) = some false)
    (k_NoneType_Ref : PySem.W.kitOne K (.type "NoneType") (.ref cRef) = some false)
    (k_NoneType_Builtin : PySem.W.kitOne K (.type "NoneType") (.ref cBuiltin) = some false)
    (k_bool_Ref : PySem.W.kitOne K (.type "bool") (.ref cRef) = some false)
    (k_bool_Builtin : PySem.W.kitOne K (.type "bool") (.ref cBuiltin) = some false)
    (k_int_Ref : PySem.W.kitOne K (.type "int") (.ref cRef) = some false)
    (k_int_Builtin : PySem.W.kitOne K (.type "int") (.ref cBuiltin) = some false)
    (k_str_Ref : PySem.W.kitOne K (.type "str") (.ref cRef) = some false)
    (k_str_Builtin : PySem.W.kitOne K (.type "str") (.ref cBuiltin) = some false)
    (nf_Ref_NoneType : PySem.W.notFirst K cRef (.type "NoneType") = true)
    (su_Ref_NoneType : PySem.W.subIn K (.ref cRef) (.type "NoneType") = some false)
    (nf_Ref_int : PySem.W.notFirst K cRef (.type "int") = true)
    (su_Ref_int : PySem.W.subIn K (.ref cRef) (.type "int") = some false)
    (nf_Ref_str : PySem.W.notFirst K cRef (.type "str") = true)
    (su_Ref_str : PySem.W.subIn K (.ref cRef) (.type "str") = some false)
    (nf_Ref_Builtin : PySem.W.notFirst K cRef (.ref cBuiltin) = true)
    (nf_Builtin_NoneType : PySem.W.notFirst K cBuiltin (.type "NoneType") = true)
    (su_Builtin_NoneType : PySem.W.subIn K (.ref cBuiltin) (.type "NoneType") = some false)
    (nf_Builtin_int : PySem.W.notFirst K cBuiltin (.type "int") = true)
    (su_Builtin_int : PySem.W.subIn K (.ref cBuiltin) (.type "int") = some false)
    (nf_Builtin_str : PySem.W.notFirst K cBuiltin (.type "str") = true)
    (su_Builtin_str : PySem.W.subIn K (.ref cBuiltin) (.type "str") = some false)
    (nf_Builtin_Ref : PySem.W.notFirst K cBuiltin (.ref cRef) = true)
    (zrange : PySem.W.nsIn K mainGlobals "range" = some none)
    (zlen : PySem.W.nsIn K mainGlobals "len" = some none)
    (zint : PySem.W.nsIn K mainGlobals "int" = some none)
    (zstr : PySem.W.nsIn K mainGlobals "str" = some none)
    (zbool : PySem.W.nsIn K mainGlobals "bool" = some none)
    (zisinstance : PySem.W.nsIn K mainGlobals "isinstance" = some none)
    (zlist : PySem.W.nsIn K mainGlobals "list" = some none)
    (ztuple : PySem.W.nsIn K mainGlobals "tuple" = some none)
    (zabs : PySem.W.nsIn K mainGlobals "abs" = some none)
    (zmin : PySem.W.nsIn K mainGlobals "min" = some none)
    (zmax : PySem.W.nsIn K mainGlobals "max" = some none)
    (zzip : PySem.W.nsIn K mainGlobals "zip" = some none)
    (udLM : PySem.W.nsIn K mainGlobals "MAP_METHODS" = some (some (.ref aLM)))
    (ldLM : K.lookup aLM = some ⟨.type "dict", none, .dict esLM nnLM, #[]⟩)
    (kdLM : PySem.W.KeysLit w.params esLM.toList)
    (lowLM : (aLM == sysModules) = false)
    (nd0 : PySem.W.nsIn K aLM "has" = some (some (.ref tA0)))
    (lt0 : K.lookup tA0 = some ⟨.type "tuple", tD0, .seq tI0 tN0, tO0⟩)
    (vt0 : Vals [.ref a_has, .ref qA0] tI0.toList)
    (st0 : tI0.size ≤ sizeLine)
    (lq0 : K.lookup qA0 = some ⟨.type "tuple", qD0, .seq qI0 qN0, qO0⟩)
    (vq0 : Vals [.str "key"] qI0.toList)
    (sq0 : qI0.size ≤ sizeLine)
    (nd1 : PySem.W.nsIn K aLM "remove" = some (some (.ref tA1)))
    (lt1 : K.lookup tA1 = some ⟨.type "tuple", tD1, .seq tI1 tN1, tO1⟩)
    (vt1 : Vals [.ref a_take_out_maps, .ref qA1] tI1.toList)
    (st1 : tI1.size ≤ sizeLine)
    (lq1 : K.lookup qA1 = some ⟨.type "tuple", qD1, .seq qI1 qN1, qO1⟩)
    (vq1 : Vals [.str "key"] qI1.toList)
    (sq1 : qI1.size ≤ sizeLine)
    (nd2 : PySem.W.nsIn K aLM "keys" = some (some (.ref tA2)))
    (lt2 : K.lookup tA2 = some ⟨.type "tuple", tD2, .seq tI2 tN2, tO2⟩)
    (vt2 : Vals [.ref a_keys_of, .ref qA2] tI2.toList)
    (st2 : tI2.size ≤ sizeLine)
    (lq2 : K.lookup qA2 = some ⟨.type "tuple", qD2, .seq qI2 qN2, qO2⟩)
    (vq2 : Vals [] qI2.toList)
    (sq2 : qI2.size ≤ sizeLine)
    (nd3 : PySem.W.nsIn K aLM "values" = some (some (.ref tA3)))
    (lt3 : K.lookup tA3 = some ⟨.type "tuple", tD3, .seq tI3 tN3, tO3⟩)
    (vt3 : Vals [.ref a_values_of, .ref qA3] tI3.toList)
    (st3 : tI3.size ≤ sizeLine)
    (lq3 : K.lookup qA3 = some ⟨.type "tuple", qD3, .seq qI3 qN3, qO3⟩)
    (vq3 : Vals [] qI3.toList)
    (sq3 : qI3.size ≤ sizeLine)
    (nd4 : PySem.W.nsIn K aLM "items" = some (some (.ref tA4)))
    (lt4 : K.lookup tA4 = some ⟨.type "tuple", tD4, .seq tI4 tN4, tO4⟩)
    (vt4 : Vals [.ref a_entries, .ref qA4] tI4.toList)
    (st4 : tI4.size ≤ sizeLine)
    (lq4 : K.lookup qA4 = some ⟨.type "tuple", qD4, .seq qI4 qN4, qO4⟩)
    (vq4 : Vals [] qI4.toList)
    (sq4 : qI4.size ≤ sizeLine)
    (nd5 : PySem.W.nsIn K aLM "get" = some (some (.ref tA5)))
    (lt5 : K.lookup tA5 = some ⟨.type "tuple", tD5, .seq tI5 tN5, tO5⟩)
    (vt5 : Vals [.ref a_get, .ref qA5] tI5.toList)
    (st5 : tI5.size ≤ sizeLine)
    (lq5 : K.lookup qA5 = some ⟨.type "tuple", qD5, .seq qI5 qN5, qO5⟩)
    (vq5 : Vals [.str "key", .str "any"] qI5.toList)
    (sq5 : qI5.size ≤ sizeLine)
    (nd6 : PySem.W.nsIn K aLM "merge" = some (some (.ref tA6)))
    (lt6 : K.lookup tA6 = some ⟨.type "tuple", tD6, .seq tI6 tN6, tO6⟩)
    (vt6 : Vals [.ref a_merge, .ref qA6] tI6.toList)
    (st6 : tI6.size ≤ sizeLine)
    (lq6 : K.lookup qA6 = some ⟨.type "tuple", qD6, .seq qI6 qN6, qO6⟩)
    (vq6 : Vals [.str "map"] qI6.toList)
    (sq6 : qI6.size ≤ sizeLine)
    (nd7 : PySem.W.nsIn K aLM "copy" = some (some (.ref tA7)))
    (lt7 : K.lookup tA7 = some ⟨.type "tuple", tD7, .seq tI7 tN7, tO7⟩)
    (vt7 : Vals [.ref a_copy_maps, .ref qA7] tI7.toList)
    (st7 : tI7.size ≤ sizeLine)
    (lq7 : K.lookup qA7 = some ⟨.type "tuple", qD7, .seq qI7 qN7, qO7⟩)
    (vq7 : Vals [] qI7.toList)
    (sq7 : qI7.size ≤ sizeLine)
    (nd8 : PySem.W.nsIn K aLM "clear" = some (some (.ref tA8)))
    (lt8 : K.lookup tA8 = some ⟨.type "tuple", tD8, .seq tI8 tN8, tO8⟩)
    (vt8 : Vals [.ref a_clear, .ref qA8] tI8.toList)
    (st8 : tI8.size ≤ sizeLine)
    (lq8 : K.lookup qA8 = some ⟨.type "tuple", qD8, .seq qI8 qN8, qO8⟩)
    (vq8 : Vals [] qI8.toList)
    (sq8 : qI8.size ≤ sizeLine)
    (nd9 : PySem.W.nsIn K aLM "length" = some (some (.ref tA9)))
    (lt9 : K.lookup tA9 = some ⟨.type "tuple", tD9, .seq tI9 tN9, tO9⟩)
    (vt9 : Vals [.ref a_length_maps, .ref qA9] tI9.toList)
    (st9 : tI9.size ≤ sizeLine)
    (lq9 : K.lookup qA9 = some ⟨.type "tuple", qD9, .seq qI9 qN9, qO9⟩)
    (vq9 : Vals [] qI9.toList)
    (sq9 : qI9.size ≤ sizeLine)
    : ∃ fd : FuncData, (∀ (s : Shared) (v : Value), BindsTo s fd ⟨[v], []⟩ [("script", v)]) ∧ ∀ base : Heap, K.In base → base.Ns mainGlobals mg → FnOk l.prog w K mg base CX0 12 fa fd ["script"] (spLaw K) := by
  have e := hfa.symm.trans (PySem.W.mg_of X G alaw)
  cases e
  have KlRef : Cls K cRef := ⟨pgRef, hdRef, poRef, saRef⟩
  have tyRef : ∀ {H : Hp} {a dx : Addr} {fs : List (Str × V)}, H a = some (.ins cRef dx fs) → TyX K H (.ref a) (.ref cRef) := fun e => .base (.ins e KlRef haRef hnTy htTy hmRef)
  have KlBuiltin : Cls K cBuiltin := ⟨pgBuiltin, hdBuiltin, poBuiltin, saBuiltin⟩
  have tyBuiltin : ∀ {H : Hp} {a dx : Addr} {fs : List (Str × V)}, H a = some (.ins cBuiltin dx fs) → TyX K H (.ref a) (.ref cBuiltin) := fun e => .base (.ins e KlBuiltin haBuiltin hnTy htTy hmBuiltin)
  have KlParts : Cls K cParts := ⟨pgParts, hdParts, poParts, saParts⟩
  have tyParts : ∀ {H : Hp} {a dx : Addr} {fs : List (Str × V)}, H a = some (.ins cParts dx fs) → TyX K H (.ref a) (.ref cParts) := fun e => .base (.ins e KlParts haParts hnTy htTy hmParts)
  have KlTable : Cls K cTable := ⟨pgTable, hdTable, poTable, saTable⟩
  have tyTable : ∀ {H : Hp} {a dx : Addr} {fs : List (Str × V)}, H a = some (.ins cTable dx fs) → TyX K H (.ref a) (.ref cTable) := fun e => .base (.ins e KlTable haTable hnTy htTy hmTable)
  have KlInstance : Cls K cInstance := ⟨pgInstance, hdInstance, poInstance, saInstance⟩
  have tyInstance : ∀ {H : Hp} {a dx : Addr} {fs : List (Str × V)}, H a = some (.ins cInstance dx fs) → TyX K H (.ref a) (.ref cInstance) := fun e => .base (.ins e KlInstance haInstance hnTy htTy hmInstance)
  have KlKin : Cls K cKin := ⟨pgKin, hdKin, poKin, saKin⟩
  have tyKin : ∀ {H : Hp} {a dx : Addr} {fs : List (Str × V)}, H a = some (.ins cKin dx fs) → TyX K H (.ref a) (.ref cKin) := fun e => .base (.ins e KlKin haKin hnTy htTy hmKin)
  have KlStore : Cls K cStore := ⟨pgStore, hdStore, poStore, saStore⟩
  have tyStore : ∀ {H : Hp} {a dx : Addr} {fs : List (Str × V)}, H a = some (.ins cStore dx fs) → TyX K H (.ref a) (.ref cStore) := fun e => .base (.ins e KlStore haStore hnTy htTy hmStore)
  have oexScriptError : OexC K cScriptError := ⟨⟨nmScriptError, qScriptError, NScriptError, bsScriptError, _, snScriptError, subScriptError, abScriptError, colScriptError, ddScriptError, m0ScriptError, m1ScriptError, m2ScriptError, m3ScriptError, m5ScriptError, xScriptError, by rfl⟩, saScriptError, exScriptError, tpScriptError, kpScriptError⟩
  have TScriptError : Exn l.prog K mg cScriptError fScriptError "kind" "message" := ⟨oexScriptError, n1ScriptError, n2ScriptError, iScriptError, tiScriptError, ⟨gaScriptError, ggScriptError, exScriptError, hdScriptError⟩, PySem.W.exm_ref exScriptError hdScriptError tpScriptError ssScriptError⟩
  have UScriptError : Sup l.prog K mg cdaScriptError ccScriptError cScriptError cScriptError := ⟨⟨_, _, _, _, _, _, coScriptError, cvScriptError, fiScriptError⟩, ⟨_, _, _, ceScriptError⟩, toSup, PySem.W.mg_none_of X G suSup, (PySem.W.any_some hdScriptError).imp fun _ h => h.1, mrScriptError, opSup, ksScriptError, vaScriptError⟩
  have bScriptError : Binds K (PySem.W.ksFn "__init__" "ScriptError.__init__" (defArgs sx_ScriptError) (defBody sx_ScriptError) (defScope sx_ScriptError) .none kVScriptError dcScriptError pmScriptError anScriptError (.ref cdaScriptError) ctScriptError ccScriptError) ["self", "kind", "message"] [] := .all fun us hl => match us, hl with | [_, _, _], _ => rfl
  have ecScriptError : ExcC K cScriptError := ⟨gaScriptError, ggScriptError, exScriptError, hdScriptError, haScriptError, hnTy, htTy, hmScriptError⟩
  have Ff_tagged := fun_mk (st := s_tagged) lf_tagged cf_tagged kf_tagged
  have bf_tagged := Ff_tagged.binds (ps := ["key"]) fun _ _ _ _ _ _ us hl => match us, hl with | [_], _ => rfl
  have glf_tagged := PySem.W.mg_of X G af_tagged
  have Ff_kind_of := fun_mk (st := s_kind_of) lf_kind_of cf_kind_of kf_kind_of
  have bf_kind_of := Ff_kind_of.binds (ps := ["store", "value"]) fun _ _ _ _ _ _ us hl => match us, hl with | [_, _], _ => rfl
  have glf_kind_of := PySem.W.mg_of X G af_kind_of
  have Ff_kind_of_thing := fun_mk (st := s_kind_of_thing) lf_kind_of_thing cf_kind_of_thing kf_kind_of_thing
  have bf_kind_of_thing := Ff_kind_of_thing.binds (ps := ["thing"]) fun _ _ _ _ _ _ us hl => match us, hl with | [_], _ => rfl
  have glf_kind_of_thing := PySem.W.mg_of X G af_kind_of_thing
  have Ff_is_key := fun_mk (st := s_is_key) lf_is_key cf_is_key kf_is_key
  have bf_is_key := Ff_is_key.binds (ps := ["value"]) fun _ _ _ _ _ _ us hl => match us, hl with | [_], _ => rfl
  have glf_is_key := PySem.W.mg_of X G af_is_key
  have Ff_check_size := fun_mk (st := s_check_size) lf_check_size cf_check_size kf_check_size
  have bf_check_size := Ff_check_size.binds (ps := ["size"]) fun _ _ _ _ _ _ us hl => match us, hl with | [_], _ => rfl
  have glf_check_size := PySem.W.mg_of X G af_check_size
  have Ff_check_count := fun_mk (st := s_check_count) lf_check_count cf_check_count kf_check_count
  have bf_check_count := Ff_check_count.binds (ps := ["values", "wanted"]) fun _ _ _ _ _ _ us hl => match us, hl with | [_, _], _ => rfl
  have glf_check_count := PySem.W.mg_of X G af_check_count
  have Ff_check_arguments := fun_mk (st := s_check_arguments) lf_check_arguments cf_check_arguments kf_check_arguments
  have bf_check_arguments := Ff_check_arguments.binds (ps := ["store", "values", "kinds"]) fun _ _ _ _ _ _ us hl => match us, hl with | [_, _, _], _ => rfl
  have glf_check_arguments := PySem.W.mg_of X G af_check_arguments
  have Ff_check_kind := fun_mk (st := s_check_kind) lf_check_kind cf_check_kind kf_check_kind
  have bf_check_kind := Ff_check_kind.binds (ps := ["store", "value", "kind"]) fun _ _ _ _ _ _ us hl => match us, hl with | [_, _, _], _ => rfl
  have glf_check_kind := PySem.W.mg_of X G af_check_kind
  have Ff_get_item := fun_mk (st := s_get_item) lf_get_item cf_get_item kf_get_item
  have bf_get_item := Ff_get_item.binds (ps := ["store", "x", "i"]) fun _ _ _ _ _ _ us hl => match us, hl with | [_, _, _], _ => rfl
  have glf_get_item := PySem.W.mg_of X G af_get_item
  have Ff_value_at := fun_mk (st := s_value_at) lf_value_at cf_value_at kf_value_at
  have bf_value_at := Ff_value_at.binds (ps := ["table", "key"]) fun _ _ _ _ _ _ us hl => match us, hl with | [_, _], _ => rfl
  have glf_value_at := PySem.W.mg_of X G af_value_at
  have Ff_set_item := fun_mk (st := s_set_item) lf_set_item cf_set_item kf_set_item
  have bf_set_item := Ff_set_item.binds (ps := ["store", "x", "i", "value"]) fun _ _ _ _ _ _ us hl => match us, hl with | [_, _, _, _], _ => rfl
  have glf_set_item := PySem.W.mg_of X G af_set_item
  have Ff_check_key := fun_mk (st := s_check_key) lf_check_key cf_check_key kf_check_key
  have bf_check_key := Ff_check_key.binds (ps := ["key"]) fun _ _ _ _ _ _ us hl => match us, hl with | [_], _ => rfl
  have glf_check_key := PySem.W.mg_of X G af_check_key
  have Ff_put_entry := fun_mk (st := s_put_entry) lf_put_entry cf_put_entry kf_put_entry
  have bf_put_entry := Ff_put_entry.binds (ps := ["table", "key", "value"]) fun _ _ _ _ _ _ us hl => match us, hl with | [_, _, _], _ => rfl
  have glf_put_entry := PySem.W.mg_of X G af_put_entry
  have Ff_make_list := fun_mk (st := s_make_list) lf_make_list cf_make_list kf_make_list
  have bf_make_list := Ff_make_list.binds (ps := ["store", "values"]) fun _ _ _ _ _ _ us hl => match us, hl with | [_, _], _ => rfl
  have glf_make_list := PySem.W.mg_of X G af_make_list
  have Ff_make_map := fun_mk (st := s_make_map) lf_make_map cf_make_map kf_make_map
  have bf_make_map := Ff_make_map.binds (ps := ["store", "pairs"]) fun _ _ _ _ _ _ us hl => match us, hl with | [_, _], _ => rfl
  have glf_make_map := PySem.W.mg_of X G af_make_map
  have Ff_make_pairs := fun_mk (st := s_make_pairs) lf_make_pairs cf_make_pairs kf_make_pairs
  have bf_make_pairs := Ff_make_pairs.binds (ps := ["store", "pairs"]) fun _ _ _ _ _ _ us hl => match us, hl with | [_, _], _ => rfl
  have glf_make_pairs := PySem.W.mg_of X G af_make_pairs
  have Ff_has := fun_mk (st := s_has) lf_has cf_has kf_has
  have bf_has := Ff_has.binds (ps := ["store", "table", "key"]) fun _ _ _ _ _ _ us hl => match us, hl with | [_, _, _], _ => rfl
  have glf_has := PySem.W.mg_of X G af_has
  have Ff_keys_of := fun_mk (st := s_keys_of) lf_keys_of cf_keys_of kf_keys_of
  have bf_keys_of := Ff_keys_of.binds (ps := ["store", "table"]) fun _ _ _ _ _ _ us hl => match us, hl with | [_, _], _ => rfl
  have glf_keys_of := PySem.W.mg_of X G af_keys_of
  have Ff_values_of := fun_mk (st := s_values_of) lf_values_of cf_values_of kf_values_of
  have bf_values_of := Ff_values_of.binds (ps := ["store", "table"]) fun _ _ _ _ _ _ us hl => match us, hl with | [_, _], _ => rfl
  have glf_values_of := PySem.W.mg_of X G af_values_of
  have Ff_entries := fun_mk (st := s_entries) lf_entries cf_entries kf_entries
  have bf_entries := Ff_entries.binds (ps := ["store", "table"]) fun _ _ _ _ _ _ us hl => match us, hl with | [_, _], _ => rfl
  have glf_entries := PySem.W.mg_of X G af_entries
  have Ff_get := fun_mk (st := s_get) lf_get cf_get kf_get
  have bf_get := Ff_get.binds (ps := ["store", "table", "key", "other"]) fun _ _ _ _ _ _ us hl => match us, hl with | [_, _, _, _], _ => rfl
  have glf_get := PySem.W.mg_of X G af_get
  have Ff_merge := fun_mk (st := s_merge) lf_merge cf_merge kf_merge
  have bf_merge := Ff_merge.binds (ps := ["store", "table", "other"]) fun _ _ _ _ _ _ us hl => match us, hl with | [_, _, _], _ => rfl
  have glf_merge := PySem.W.mg_of X G af_merge
  have Ff_clear := fun_mk (st := s_clear) lf_clear cf_clear kf_clear
  have bf_clear := Ff_clear.binds (ps := ["store", "table"]) fun _ _ _ _ _ _ us hl => match us, hl with | [_, _], _ => rfl
  have glf_clear := PySem.W.mg_of X G af_clear
  have Ff_call_method := fun_mk (st := s_call_method) lf_call_method cf_call_method kf_call_method
  have bf_call_method := Ff_call_method.binds (ps := ["store", "x", "name", "values"]) fun _ _ _ _ _ _ us hl => match us, hl with | [_, _, _, _], _ => rfl
  have glf_call_method := PySem.W.mg_of X G af_call_method
  have Ff_method_for := fun_mk (st := s_method_for) lf_method_for cf_method_for kf_method_for
  have bf_method_for := Ff_method_for.binds (ps := ["owner", "name"]) fun _ _ _ _ _ _ us hl => match us, hl with | [_, _], _ => rfl
  have glf_method_for := PySem.W.mg_of X G af_method_for
  have Ff_law_cell := fun_mk (st := s_law_cell) lf_law_cell cf_law_cell kf_law_cell
  have bf_law_cell := Ff_law_cell.binds (ps := ["script", "k"]) fun _ _ _ _ _ _ us hl => match us, hl with | [_, _], _ => rfl
  have glf_law_cell := PySem.W.mg_of X G af_law_cell
  have Ff_law_begin := fun_mk (st := s_law_begin) lf_law_begin cf_law_begin kf_law_begin
  have bf_law_begin := Ff_law_begin.binds (ps := ["script", "k"]) fun _ _ _ _ _ _ us hl => match us, hl with | [_, _], _ => rfl
  have glf_law_begin := PySem.W.mg_of X G af_law_begin
  have Ff_law_draw := fun_mk (st := s_law_draw) lf_law_draw cf_law_draw kf_law_draw
  have bf_law_draw := Ff_law_draw.binds (ps := ["state", "many"]) fun _ _ _ _ _ _ us hl => match us, hl with | [_, _], _ => rfl
  have glf_law_draw := PySem.W.mg_of X G af_law_draw
  have Ff_law_pick := fun_mk (st := s_law_pick) lf_law_pick cf_law_pick kf_law_pick
  have bf_law_pick := Ff_law_pick.binds (ps := ["state", "row"]) fun _ _ _ _ _ _ us hl => match us, hl with | [_, _], _ => rfl
  have glf_law_pick := PySem.W.mg_of X G af_law_pick
  have Ff_law_key := fun_mk (st := s_law_key) lf_law_key cf_law_key kf_law_key
  have bf_law_key := Ff_law_key.binds (ps := ["state"]) fun _ _ _ _ _ _ us hl => match us, hl with | [_], _ => rfl
  have glf_law_key := PySem.W.mg_of X G af_law_key
  have Ff_law_same := fun_mk (st := s_law_same) lf_law_same cf_law_same kf_law_same
  have bf_law_same := Ff_law_same.binds (ps := ["x", "y"]) fun _ _ _ _ _ _ us hl => match us, hl with | [_, _], _ => rfl
  have glf_law_same := PySem.W.mg_of X G af_law_same
  have Ff_law_at := fun_mk (st := s_law_at) lf_law_at cf_law_at kf_law_at
  have bf_law_at := Ff_law_at.binds (ps := ["rows", "key"]) fun _ _ _ _ _ _ us hl => match us, hl with | [_, _], _ => rfl
  have glf_law_at := PySem.W.mg_of X G af_law_at
  have Ff_law_put := fun_mk (st := s_law_put) lf_law_put cf_law_put kf_law_put
  have bf_law_put := Ff_law_put.binds (ps := ["rows", "key", "value"]) fun _ _ _ _ _ _ us hl => match us, hl with | [_, _, _], _ => rfl
  have glf_law_put := PySem.W.mg_of X G af_law_put
  have Ff_law_pairs := fun_mk (st := s_law_pairs) lf_law_pairs cf_law_pairs kf_law_pairs
  have bf_law_pairs := Ff_law_pairs.binds (ps := ["told", "rows"]) fun _ _ _ _ _ _ us hl => match us, hl with | [_, _], _ => rfl
  have glf_law_pairs := PySem.W.mg_of X G af_law_pairs
  have Ff_law_try := fun_mk (st := s_law_try) lf_law_try cf_law_try kf_law_try
  have bf_law_try := Ff_law_try.binds (ps := ["store", "deed", "name", "values"]) fun _ _ _ _ _ _ us hl => match us, hl with | [_, _, _, _], _ => rfl
  have glf_law_try := PySem.W.mg_of X G af_law_try
  have Ff_law_is := fun_mk (st := s_law_is) lf_law_is cf_law_is kf_law_is
  have bf_law_is := Ff_law_is.binds (ps := ["told", "value"]) fun _ _ _ _ _ _ us hl => match us, hl with | [_, _], _ => rfl
  have glf_law_is := PySem.W.mg_of X G af_law_is
  have Ff_law_taken := fun_mk (st := s_law_taken) lf_law_taken cf_law_taken kf_law_taken
  have bf_law_taken := Ff_law_taken.binds (ps := ["store", "rows", "key"]) fun _ _ _ _ _ _ us hl => match us, hl with | [_, _, _], _ => rfl
  have glf_law_taken := PySem.W.mg_of X G af_law_taken
  have Ff_law_set := fun_mk (st := s_law_set) lf_law_set cf_law_set kf_law_set
  have bf_law_set := Ff_law_set.binds (ps := ["store", "rows", "key", "value"]) fun _ _ _ _ _ _ us hl => match us, hl with | [_, _, _, _], _ => rfl
  have glf_law_set := PySem.W.mg_of X G af_law_set
  have Ff_law_read := fun_mk (st := s_law_read) lf_law_read cf_law_read kf_law_read
  have bf_law_read := Ff_law_read.binds (ps := ["store", "rows", "key", "value"]) fun _ _ _ _ _ _ us hl => match us, hl with | [_, _, _, _], _ => rfl
  have glf_law_read := PySem.W.mg_of X G af_law_read
  have Ff_law_listed := fun_mk (st := s_law_listed) lf_law_listed cf_law_listed kf_law_listed
  have bf_law_listed := Ff_law_listed.binds (ps := ["store", "rows"]) fun _ _ _ _ _ _ us hl => match us, hl with | [_, _], _ => rfl
  have glf_law_listed := PySem.W.mg_of X G af_law_listed
  have Ff_law_merged := fun_mk (st := s_law_merged) lf_law_merged cf_law_merged kf_law_merged
  have bf_law_merged := Ff_law_merged.binds (ps := ["store", "rows", "state"]) fun _ _ _ _ _ _ us hl => match us, hl with | [_, _, _], _ => rfl
  have glf_law_merged := PySem.W.mg_of X G af_law_merged
  have Ff_law_step := fun_mk (st := s_law_step) lf_law_step cf_law_step kf_law_step
  have bf_law_step := Ff_law_step.binds (ps := ["store", "rows", "state"]) fun _ _ _ _ _ _ us hl => match us, hl with | [_, _, _], _ => rfl
  have glf_law_step := PySem.W.mg_of X G af_law_step
  have Flaw := fun_mk (st := s_law) llaw claw klaw
  have gllaw := PySem.W.mg_of X G alaw
  have Ff_take_out_maps := fun_mk (st := s_take_out_maps) lf_take_out_maps cf_take_out_maps kf_take_out_maps
  have bf_take_out_maps := Ff_take_out_maps.binds (ps := ["store", "table", "key"]) fun _ _ _ _ _ _ us hl => match us, hl with | [_, _, _], _ => rfl
  have glf_take_out_maps := PySem.W.mg_of X G af_take_out_maps
  have Ff_copy_maps := fun_mk (st := s_copy_maps) lf_copy_maps cf_copy_maps kf_copy_maps
  have bf_copy_maps := Ff_copy_maps.binds (ps := ["store", "table"]) fun _ _ _ _ _ _ us hl => match us, hl with | [_, _], _ => rfl
  have glf_copy_maps := PySem.W.mg_of X G af_copy_maps
  have Ff_length_maps := fun_mk (st := s_length_maps) lf_length_maps cf_length_maps kf_length_maps
  have bf_length_maps := Ff_length_maps.binds (ps := ["store", "table"]) fun _ _ _ _ _ _ us hl => match us, hl with | [_, _], _ => rfl
  have glf_length_maps := PySem.W.mg_of X G af_length_maps
  have Ff_Ref_init := fun_mk (st := s_Ref_init) lf_Ref_init cf_Ref_init kf_Ref_init
  have bf_Ref_init := Ff_Ref_init.binds (ps := ["self", "number"]) fun _ _ _ _ _ _ us hl => match us, hl with | [_, _], _ => rfl
  have Kf_Ref_init : Mk K cRef a_Ref_init := ⟨mkRef, af_Ref_init, if_Ref_init, kcRef⟩
  have Ff_Ref_eq := fun_mk (st := s_Ref_eq) lf_Ref_eq cf_Ref_eq kf_Ref_eq
  have bf_Ref_eq := Ff_Ref_eq.binds (ps := ["self", "other"]) fun _ _ _ _ _ _ us hl => match us, hl with | [_, _], _ => rfl
  have Mf_Ref_eq : Meth K cRef "__eq__" a_Ref_eq := ⟨af_Ref_eq, if_Ref_eq, kf_Ref_eq⟩
  have Ff_Builtin_init := fun_mk (st := s_Builtin_init) lf_Builtin_init cf_Builtin_init kf_Builtin_init
  have bf_Builtin_init := Ff_Builtin_init.binds (ps := ["self", "name"]) fun _ _ _ _ _ _ us hl => match us, hl with | [_, _], _ => rfl
  have Kf_Builtin_init : Mk K cBuiltin a_Builtin_init := ⟨mkBuiltin, af_Builtin_init, if_Builtin_init, kcBuiltin⟩
  have Ff_Builtin_eq := fun_mk (st := s_Builtin_eq) lf_Builtin_eq cf_Builtin_eq kf_Builtin_eq
  have bf_Builtin_eq := Ff_Builtin_eq.binds (ps := ["self", "other"]) fun _ _ _ _ _ _ us hl => match us, hl with | [_, _], _ => rfl
  have Mf_Builtin_eq : Meth K cBuiltin "__eq__" a_Builtin_eq := ⟨af_Builtin_eq, if_Builtin_eq, kf_Builtin_eq⟩
  have Ff_Parts_init := fun_mk (st := s_Parts_init) lf_Parts_init cf_Parts_init kf_Parts_init
  have bf_Parts_init := Ff_Parts_init.binds (ps := ["self", "held"]) fun _ _ _ _ _ _ us hl => match us, hl with | [_, _], _ => rfl
  have Kf_Parts_init : Mk K cParts a_Parts_init := ⟨mkParts, af_Parts_init, if_Parts_init, kcParts⟩
  have Ff_Table_init := fun_mk (st := s_Table_init) lf_Table_init cf_Table_init kf_Table_init
  have bf_Table_init := Ff_Table_init.binds (ps := ["self"]) fun _ _ _ _ _ _ us hl => match us, hl with | [_], _ => rfl
  have Kf_Table_init : Mk K cTable a_Table_init := ⟨mkTable, af_Table_init, if_Table_init, kcTable⟩
  have Ff_Table_has := fun_mk (st := s_Table_has) lf_Table_has cf_Table_has kf_Table_has
  have bf_Table_has := Ff_Table_has.binds (ps := ["self", "key"]) fun _ _ _ _ _ _ us hl => match us, hl with | [_, _], _ => rfl
  have Mf_Table_has : Meth K cTable "has" a_Table_has := ⟨af_Table_has, if_Table_has, kf_Table_has⟩
  have Ff_Table_value_of := fun_mk (st := s_Table_value_of) lf_Table_value_of cf_Table_value_of kf_Table_value_of
  have bf_Table_value_of := Ff_Table_value_of.binds (ps := ["self", "key"]) fun _ _ _ _ _ _ us hl => match us, hl with | [_, _], _ => rfl
  have Mf_Table_value_of : Meth K cTable "value_of" a_Table_value_of := ⟨af_Table_value_of, if_Table_value_of, kf_Table_value_of⟩
  have Ff_Table_put := fun_mk (st := s_Table_put) lf_Table_put cf_Table_put kf_Table_put
  have bf_Table_put := Ff_Table_put.binds (ps := ["self", "key", "value"]) fun _ _ _ _ _ _ us hl => match us, hl with | [_, _, _], _ => rfl
  have Mf_Table_put : Meth K cTable "put" a_Table_put := ⟨af_Table_put, if_Table_put, kf_Table_put⟩
  have Ff_Table_take_out := fun_mk (st := s_Table_take_out) lf_Table_take_out cf_Table_take_out kf_Table_take_out
  have bf_Table_take_out := Ff_Table_take_out.binds (ps := ["self", "key"]) fun _ _ _ _ _ _ us hl => match us, hl with | [_, _], _ => rfl
  have Mf_Table_take_out : Meth K cTable "take_out" a_Table_take_out := ⟨af_Table_take_out, if_Table_take_out, kf_Table_take_out⟩
  have Ff_Table_pairs := fun_mk (st := s_Table_pairs) lf_Table_pairs cf_Table_pairs kf_Table_pairs
  have bf_Table_pairs := Ff_Table_pairs.binds (ps := ["self"]) fun _ _ _ _ _ _ us hl => match us, hl with | [_], _ => rfl
  have Mf_Table_pairs : Meth K cTable "pairs" a_Table_pairs := ⟨af_Table_pairs, if_Table_pairs, kf_Table_pairs⟩
  have Ff_Table_many := fun_mk (st := s_Table_many) lf_Table_many cf_Table_many kf_Table_many
  have bf_Table_many := Ff_Table_many.binds (ps := ["self"]) fun _ _ _ _ _ _ us hl => match us, hl with | [_], _ => rfl
  have Pf_Table_many : PropOf K cTable "many" p_Table_many a_Table_many := ⟨af_Table_many, pgtf_Table_many, ptkf_Table_many, _, prcf_Table_many⟩
  have Ff_Kin_init := fun_mk (st := s_Kin_init) lf_Kin_init cf_Kin_init kf_Kin_init
  have bf_Kin_init := Ff_Kin_init.binds (ps := ["self", "name", "parent"]) fun _ _ _ _ _ _ us hl => match us, hl with | [_, _, _], _ => rfl
  have Kf_Kin_init : Mk K cKin a_Kin_init := ⟨mkKin, af_Kin_init, if_Kin_init, kcKin⟩
  have Ff_Store_init := fun_mk (st := s_Store_init) lf_Store_init cf_Store_init kf_Store_init
  have bf_Store_init := Ff_Store_init.binds (ps := ["self", "lines"]) fun _ _ _ _ _ _ us hl => match us, hl with | [_, _], _ => rfl
  have Kf_Store_init : Mk K cStore a_Store_init := ⟨mkStore, af_Store_init, if_Store_init, kcStore⟩
  have Ff_Store_make := fun_mk (st := s_Store_make) lf_Store_make cf_Store_make kf_Store_make
  have bf_Store_make := Ff_Store_make.binds (ps := ["self", "thing"]) fun _ _ _ _ _ _ us hl => match us, hl with | [_, _], _ => rfl
  have Mf_Store_make : Meth K cStore "make" a_Store_make := ⟨af_Store_make, if_Store_make, kf_Store_make⟩
  have Ff_Store_at := fun_mk (st := s_Store_at) lf_Store_at cf_Store_at kf_Store_at
  have bf_Store_at := Ff_Store_at.binds (ps := ["self", "ref"]) fun _ _ _ _ _ _ us hl => match us, hl with | [_, _], _ => rfl
  have Mf_Store_at : Meth K cStore "at" a_Store_at := ⟨af_Store_at, if_Store_at, kf_Store_at⟩
  have ciMOST_HELD : ∃ t, mg "MOST_HELD" = some (.int 1000 t) := ⟨_, PySem.W.mg_of X G qMOST_HELD⟩
  obtain ⟨L, eL0, eL1, eL2, eL3, eL4, eL5, eL6, eL7, eL8, eL9⟩ : ∃ L : Lib l.prog K mg ⟨cRef, cBuiltin, cParts, cTable, cInstance, cKin, cStore, cLivequillError, cScriptError⟩, L.has.f = a_has ∧ L.take_out_maps.f = a_take_out_maps ∧ L.keys_of.f = a_keys_of ∧ L.values_of.f = a_values_of ∧ L.entries.f = a_entries ∧ L.get.f = a_get ∧ L.merge.f = a_merge ∧ L.copy_maps.f = a_copy_maps ∧ L.clear.f = a_clear ∧ L.length_maps.f = a_length_maps := ⟨⟨PySem.W.mg_none_of X G zrange, PySem.W.mg_none_of X G zlen, PySem.W.mg_none_of X G zint, PySem.W.mg_none_of X G zstr, PySem.W.mg_none_of X G zbool, PySem.W.mg_none_of X G zisinstance, PySem.W.mg_none_of X G zlist, PySem.W.mg_none_of X G ztuple, PySem.W.mg_none_of X G zabs, PySem.W.mg_none_of X G zmin, PySem.W.mg_none_of X G zmax, PySem.W.mg_none_of X G zzip, ⟨KlRef, PySem.W.mg_of X G uRef, tyRef⟩, nRef_number, ⟨KlBuiltin, PySem.W.mg_of X G uBuiltin, tyBuiltin⟩, nBuiltin_name, ⟨KlParts, PySem.W.mg_of X G uParts, tyParts⟩, nParts_held, ⟨KlTable, PySem.W.mg_of X G uTable, tyTable⟩, nTable__entries, ⟨KlInstance, PySem.W.mg_of X G uInstance, tyInstance⟩, ⟨KlKin, PySem.W.mg_of X G uKin, tyKin⟩, nKin_name, nKin_parent, nKin_methods, ⟨KlStore, PySem.W.mg_of X G uStore, tyStore⟩, nStore_things, nStore_output, nStore_lines, nStore_taken, ⟨PySem.W.mg_of X G uLivequillError⟩, ⟨_, _, TScriptError, fun _ _ => ok_SE liScriptError ciScriptError TScriptError UScriptError, bScriptError, PySem.W.mg_of X G uScriptError, ecScriptError⟩, klScriptErrorLivequillError, k_Ref_Builtin, k_Ref_bool, k_Ref_int, k_Ref_str, k_Builtin_Ref, k_Builtin_bool, k_Builtin_int, k_Builtin_str, k_Parts_Ref, k_Parts_Table, k_Parts_Instance, k_Parts_Kin, k_Parts_Builtin, k_Table_Ref, k_Table_Parts, k_Table_Instance, k_Table_Kin, k_Table_Builtin, k_Instance_Ref, k_Instance_Parts, k_Instance_Table, k_Instance_Kin, k_Instance_Builtin, k_Kin_Ref, k_Kin_Parts, k_Kin_Table, k_Kin_Instance, k_Kin_Builtin, k_Store_Ref, k_Store_Builtin, k_NoneType_Ref, k_NoneType_Builtin, k_bool_Ref, k_bool_Builtin, k_int_Ref, k_int_Builtin, k_str_Ref, k_str_Builtin, nf_Ref_NoneType, su_Ref_NoneType, nf_Ref_int, su_Ref_int, nf_Ref_str, su_Ref_str, nf_Ref_Builtin, nf_Builtin_NoneType, su_Builtin_NoneType, nf_Builtin_int, su_Builtin_int, nf_Builtin_str, su_Builtin_str, nf_Builtin_Ref, ciMOST_HELD, ⟨_, _, Ff_tagged, bf_tagged, glf_tagged⟩, ⟨_, _, Ff_kind_of, bf_kind_of, glf_kind_of⟩, ⟨_, _, Ff_kind_of_thing, bf_kind_of_thing, glf_kind_of_thing⟩, ⟨_, _, Ff_is_key, bf_is_key, glf_is_key⟩, ⟨_, _, Ff_check_size, bf_check_size, glf_check_size⟩, ⟨_, _, Ff_check_count, bf_check_count, glf_check_count⟩, ⟨_, _, Ff_check_arguments, bf_check_arguments, glf_check_arguments⟩, ⟨_, _, Ff_check_kind, bf_check_kind, glf_check_kind⟩, ⟨_, _, Ff_get_item, bf_get_item, glf_get_item⟩, ⟨_, _, Ff_value_at, bf_value_at, glf_value_at⟩, ⟨_, _, Ff_set_item, bf_set_item, glf_set_item⟩, ⟨_, _, Ff_check_key, bf_check_key, glf_check_key⟩, ⟨_, _, Ff_put_entry, bf_put_entry, glf_put_entry⟩, ⟨_, _, Ff_make_list, bf_make_list, glf_make_list⟩, ⟨_, _, Ff_make_map, bf_make_map, glf_make_map⟩, ⟨_, _, Ff_make_pairs, bf_make_pairs, glf_make_pairs⟩, ⟨_, _, Ff_has, bf_has, glf_has⟩, ⟨_, _, Ff_keys_of, bf_keys_of, glf_keys_of⟩, ⟨_, _, Ff_values_of, bf_values_of, glf_values_of⟩, ⟨_, _, Ff_entries, bf_entries, glf_entries⟩, ⟨_, _, Ff_get, bf_get, glf_get⟩, ⟨_, _, Ff_merge, bf_merge, glf_merge⟩, ⟨_, _, Ff_clear, bf_clear, glf_clear⟩, ⟨_, _, Ff_call_method, bf_call_method, glf_call_method⟩, ⟨_, _, Ff_method_for, bf_method_for, glf_method_for⟩, ⟨_, _, Ff_law_cell, bf_law_cell, glf_law_cell⟩, ⟨_, _, Ff_law_begin, bf_law_begin, glf_law_begin⟩, ⟨_, _, Ff_law_draw, bf_law_draw, glf_law_draw⟩, ⟨_, _, Ff_law_pick, bf_law_pick, glf_law_pick⟩, ⟨_, _, Ff_law_key, bf_law_key, glf_law_key⟩, ⟨_, _, Ff_law_same, bf_law_same, glf_law_same⟩, ⟨_, _, Ff_law_at, bf_law_at, glf_law_at⟩, ⟨_, _, Ff_law_put, bf_law_put, glf_law_put⟩, ⟨_, _, Ff_law_pairs, bf_law_pairs, glf_law_pairs⟩, ⟨_, _, Ff_law_try, bf_law_try, glf_law_try⟩, ⟨_, _, Ff_law_is, bf_law_is, glf_law_is⟩, ⟨_, _, Ff_law_taken, bf_law_taken, glf_law_taken⟩, ⟨_, _, Ff_law_set, bf_law_set, glf_law_set⟩, ⟨_, _, Ff_law_read, bf_law_read, glf_law_read⟩, ⟨_, _, Ff_law_listed, bf_law_listed, glf_law_listed⟩, ⟨_, _, Ff_law_merged, bf_law_merged, glf_law_merged⟩, ⟨_, _, Ff_law_step, bf_law_step, glf_law_step⟩, ⟨_, _, Ff_take_out_maps, bf_take_out_maps, glf_take_out_maps⟩, ⟨_, _, Ff_copy_maps, bf_copy_maps, glf_copy_maps⟩, ⟨_, _, Ff_length_maps, bf_length_maps, glf_length_maps⟩, ⟨_, _, Ff_Ref_init, bf_Ref_init, Kf_Ref_init⟩, ⟨_, _, Ff_Ref_eq, bf_Ref_eq, ⟨af_Ref_eq, if_Ref_eq⟩⟩, ⟨_, _, Ff_Builtin_init, bf_Builtin_init, Kf_Builtin_init⟩, ⟨_, _, Ff_Builtin_eq, bf_Builtin_eq, ⟨af_Builtin_eq, if_Builtin_eq⟩⟩, ⟨_, _, Ff_Parts_init, bf_Parts_init, Kf_Parts_init⟩, ⟨_, _, Ff_Table_init, bf_Table_init, Kf_Table_init⟩, ⟨_, _, Ff_Table_has, bf_Table_has, Mf_Table_has⟩, ⟨_, _, Ff_Table_value_of, bf_Table_value_of, Mf_Table_value_of⟩, ⟨_, _, Ff_Table_put, bf_Table_put, Mf_Table_put⟩, ⟨_, _, Ff_Table_take_out, bf_Table_take_out, Mf_Table_take_out⟩, ⟨_, _, Ff_Table_pairs, bf_Table_pairs, Mf_Table_pairs⟩, ⟨_, _, _, Ff_Table_many, bf_Table_many, Pf_Table_many⟩, ⟨_, _, Ff_Kin_init, bf_Kin_init, Kf_Kin_init⟩, ⟨_, _, Ff_Store_init, bf_Store_init, Kf_Store_init⟩, ⟨_, _, Ff_Store_make, bf_Store_make, Mf_Store_make⟩, ⟨_, _, Ff_Store_at, bf_Store_at, Mf_Store_at⟩⟩, rfl, rfl, rfl, rfl, rfl, rfl, rfl, rfl, rfl, rfl⟩
  have D : Fd w L := ⟨aLM, _, _, ⟨ldLM, kdLM, lowLM⟩, PySem.W.mg_of X G udLM, fun c => match c with
    | .has _ => ⟨tA0, qA0, nd0, fun H => by show SqT K H tA0 [.ref L.has.f, .ref qA0]; rw [eL0]; exact .inr ⟨_, _, _, lt0, rfl, rfl, st0, vt0⟩, fun H => .inr ⟨_, _, _, lq0, rfl, rfl, sq0, vq0⟩⟩
    | .remove _ => ⟨tA1, qA1, nd1, fun H => by show SqT K H tA1 [.ref L.take_out_maps.f, .ref qA1]; rw [eL1]; exact .inr ⟨_, _, _, lt1, rfl, rfl, st1, vt1⟩, fun H => .inr ⟨_, _, _, lq1, rfl, rfl, sq1, vq1⟩⟩
    | .keys => ⟨tA2, qA2, nd2, fun H => by show SqT K H tA2 [.ref L.keys_of.f, .ref qA2]; rw [eL2]; exact .inr ⟨_, _, _, lt2, rfl, rfl, st2, vt2⟩, fun H => .inr ⟨_, _, _, lq2, rfl, rfl, sq2, vq2⟩⟩
    | .values => ⟨tA3, qA3, nd3, fun H => by show SqT K H tA3 [.ref L.values_of.f, .ref qA3]; rw [eL3]; exact .inr ⟨_, _, _, lt3, rfl, rfl, st3, vt3⟩, fun H => .inr ⟨_, _, _, lq3, rfl, rfl, sq3, vq3⟩⟩
    | .items => ⟨tA4, qA4, nd4, fun H => by show SqT K H tA4 [.ref L.entries.f, .ref qA4]; rw [eL4]; exact .inr ⟨_, _, _, lt4, rfl, rfl, st4, vt4⟩, fun H => .inr ⟨_, _, _, lq4, rfl, rfl, sq4, vq4⟩⟩
    | .get _ _ => ⟨tA5, qA5, nd5, fun H => by show SqT K H tA5 [.ref L.get.f, .ref qA5]; rw [eL5]; exact .inr ⟨_, _, _, lt5, rfl, rfl, st5, vt5⟩, fun H => .inr ⟨_, _, _, lq5, rfl, rfl, sq5, vq5⟩⟩
    | .merge _ _ => ⟨tA6, qA6, nd6, fun H => by show SqT K H tA6 [.ref L.merge.f, .ref qA6]; rw [eL6]; exact .inr ⟨_, _, _, lt6, rfl, rfl, st6, vt6⟩, fun H => .inr ⟨_, _, _, lq6, rfl, rfl, sq6, vq6⟩⟩
    | .copy => ⟨tA7, qA7, nd7, fun H => by show SqT K H tA7 [.ref L.copy_maps.f, .ref qA7]; rw [eL7]; exact .inr ⟨_, _, _, lt7, rfl, rfl, st7, vt7⟩, fun H => .inr ⟨_, _, _, lq7, rfl, rfl, sq7, vq7⟩⟩
    | .clear => ⟨tA8, qA8, nd8, fun H => by show SqT K H tA8 [.ref L.clear.f, .ref qA8]; rw [eL8]; exact .inr ⟨_, _, _, lt8, rfl, rfl, st8, vt8⟩, fun H => .inr ⟨_, _, _, lq8, rfl, rfl, sq8, vq8⟩⟩
    | .length => ⟨tA9, qA9, nd9, fun H => by show SqT K H tA9 [.ref L.length_maps.f, .ref qA9]; rw [eL9]; exact .inr ⟨_, _, _, lt9, rfl, rfl, st9, vt9⟩, fun H => .inr ⟨_, _, _, lq9, rfl, rfl, sq9, vq9⟩⟩⟩
  exact ⟨PySem.W.fnOf "law" "law" (defArgs s_law) (defBody s_law) (defScope s_law) .none kVlaw dclaw pmlaw anlaw cdlaw ctlaw, fun s v => .of_eq rfl, fun base _ _ => ok_law Flaw L D⟩
end My
namespace PySem.W.Fast
def tw90343872475197607 : Type := PySem.Params
theorem te90343872475197607 : PySem.Params = tw90343872475197607 := rfl
end PySem.W.Fast
open PySem PySem.W PyProof.Rows
set_option maxRecDepth 100000 in
set_option maxHeartbeats 0 in
theorem PySem.Challenge.cw_livequill_k21_maps_by_methods_holds : PySem.Challenge.rw_livequill_k21_maps_by_methods.Holds := by
  w_on; o_law; k_head; (case hw => w_witness2)
  k_fill
  refine L2.walk_of (l := PySem.Challenge.rw_livequill_k21_maps_by_methods) (n := 63) (k := 12) (x := "script") (CX := fun _ => L2.CX0) (sp := fun w => My.spLaw _) rfl (by decide) rfl ⟨rfl, by decide, by decide⟩ (fun w h Y => PySem.W.kIn_of Y) ?F (fun _ _ a ns hl _ hS => ⟨a, ns, rfl, hS, hl, fun _ => rfl⟩) (fun _ _ _ _ _ h => h)
  case F =>
    intro w mg fa h KX G hmg
    refine' My.all_mk KX G hmg ?uRef ?mkRef ?kcRef ?pgRef ?hdRef ?poRef ?saRef ?nRef_number ?hnTy ?htTy ?haRef ?hmRef ?uBuiltin ?mkBuiltin ?kcBuiltin ?pgBuiltin ?hdBuiltin ?poBuiltin ?saBuiltin ?nBuiltin_name ?haBuiltin ?hmBuiltin ?uParts ?mkParts ?kcParts ?pgParts ?hdParts ?poParts ?saParts ?nParts_held ?haParts ?hmParts ?uTable ?mkTable ?kcTable ?pgTable ?hdTable ?poTable ?saTable ?nTable__entries ?haTable ?hmTable ?uInstance ?mkInstance ?kcInstance ?pgInstance ?hdInstance ?poInstance ?saInstance ?haInstance ?hmInstance ?uKin ?mkKin ?kcKin ?pgKin ?hdKin ?poKin ?saKin ?nKin_name ?nKin_parent ?nKin_methods ?haKin ?hmKin ?uStore ?mkStore ?kcStore ?pgStore ?hdStore ?poStore ?saStore ?nStore_things ?nStore_output ?nStore_lines ?nStore_taken ?haStore ?hmStore ?uLivequillError ?uScriptError ?xScriptError ?saScriptError ?exScriptError ?tpScriptError ?kpScriptError ?n1ScriptError ?n2ScriptError ?iScriptError ?tiScriptError ?gaScriptError ?ggScriptError ?hdScriptError ?ssScriptError ?liScriptError ?ciScriptError ?coScriptError ?cvScriptError ?fiScriptError ?ceScriptError ?toSup ?suSup ?opSup ?mrScriptError ?ksScriptError ?vaScriptError ?haScriptError ?hmScriptError ?klScriptErrorLivequillError ?af_tagged ?lf_tagged ?cf_tagged ?kf_tagged ?af_kind_of ?lf_kind_of ?cf_kind_of ?kf_kind_of ?af_kind_of_thing ?lf_kind_of_thing ?cf_kind_of_thing ?kf_kind_of_thing ?af_is_key ?lf_is_key ?cf_is_key ?kf_is_key ?af_check_size ?lf_check_size ?cf_check_size ?kf_check_size ?af_check_count ?lf_check_count ?cf_check_count ?kf_check_count ?af_check_arguments ?lf_check_arguments ?cf_check_arguments ?kf_check_arguments ?af_check_kind ?lf_check_kind ?cf_check_kind ?kf_check_kind ?af_get_item ?lf_get_item ?cf_get_item ?kf_get_item ?af_value_at ?lf_value_at ?cf_value_at ?kf_value_at ?af_set_item ?lf_set_item ?cf_set_item ?kf_set_item ?af_check_key ?lf_check_key ?cf_check_key ?kf_check_key ?af_put_entry ?lf_put_entry ?cf_put_entry ?kf_put_entry ?af_make_list ?lf_make_list ?cf_make_list ?kf_make_list ?af_make_map ?lf_make_map ?cf_make_map ?kf_make_map ?af_make_pairs ?lf_make_pairs ?cf_make_pairs ?kf_make_pairs ?af_has ?lf_has ?cf_has ?kf_has ?af_keys_of ?lf_keys_of ?cf_keys_of ?kf_keys_of ?af_values_of ?lf_values_of ?cf_values_of ?kf_values_of ?af_entries ?lf_entries ?cf_entries ?kf_entries ?af_get ?lf_get ?cf_get ?kf_get ?af_merge ?lf_merge ?cf_merge ?kf_merge ?af_clear ?lf_clear ?cf_clear ?kf_clear ?af_call_method ?lf_call_method ?cf_call_method ?kf_call_method ?af_method_for ?lf_method_for ?cf_method_for ?kf_method_for ?af_law_cell ?lf_law_cell ?cf_law_cell ?kf_law_cell ?af_law_begin ?lf_law_begin ?cf_law_begin ?kf_law_begin ?af_law_draw ?lf_law_draw ?cf_law_draw ?kf_law_draw ?af_law_pick ?lf_law_pick ?cf_law_pick ?kf_law_pick ?af_law_key ?lf_law_key ?cf_law_key ?kf_law_key ?af_law_same ?lf_law_same ?cf_law_same ?kf_law_same ?af_law_at ?lf_law_at ?cf_law_at ?kf_law_at ?af_law_put ?lf_law_put ?cf_law_put ?kf_law_put ?af_law_pairs ?lf_law_pairs ?cf_law_pairs ?kf_law_pairs ?af_law_try ?lf_law_try ?cf_law_try ?kf_law_try ?af_law_is ?lf_law_is ?cf_law_is ?kf_law_is ?af_law_taken ?lf_law_taken ?cf_law_taken ?kf_law_taken ?af_law_set ?lf_law_set ?cf_law_set ?kf_law_set ?af_law_read ?lf_law_read ?cf_law_read ?kf_law_read ?af_law_listed ?lf_law_listed ?cf_law_listed ?kf_law_listed ?af_law_merged ?lf_law_merged ?cf_law_merged ?kf_law_merged ?af_law_step ?lf_law_step ?cf_law_step ?kf_law_step ?alaw ?llaw ?claw ?klaw ?af_take_out_maps ?lf_take_out_maps ?cf_take_out_maps ?kf_take_out_maps ?af_copy_maps ?lf_copy_maps ?cf_copy_maps ?kf_copy_maps ?af_length_maps ?lf_length_maps ?cf_length_maps ?kf_length_maps ?af_Ref_init ?if_Ref_init ?lf_Ref_init ?cf_Ref_init ?kf_Ref_init ?af_Ref_eq ?if_Ref_eq ?lf_Ref_eq ?cf_Ref_eq ?kf_Ref_eq ?af_Builtin_init ?if_Builtin_init ?lf_Builtin_init ?cf_Builtin_init ?kf_Builtin_init ?af_Builtin_eq ?if_Builtin_eq ?lf_Builtin_eq ?cf_Builtin_eq ?kf_Builtin_eq ?af_Parts_init ?if_Parts_init ?lf_Parts_init ?cf_Parts_init ?kf_Parts_init ?af_Table_init ?if_Table_init ?lf_Table_init ?cf_Table_init ?kf_Table_init ?af_Table_has ?if_Table_has ?lf_Table_has ?cf_Table_has ?kf_Table_has ?af_Table_value_of ?if_Table_value_of ?lf_Table_value_of ?cf_Table_value_of ?kf_Table_value_of ?af_Table_put ?if_Table_put ?lf_Table_put ?cf_Table_put ?kf_Table_put ?af_Table_take_out ?if_Table_take_out ?lf_Table_take_out ?cf_Table_take_out ?kf_Table_take_out ?af_Table_pairs ?if_Table_pairs ?lf_Table_pairs ?cf_Table_pairs ?kf_Table_pairs ?af_Table_many ?pgtf_Table_many ?ptkf_Table_many ?prcf_Table_many ?lf_Table_many ?cf_Table_many ?kf_Table_many ?af_Kin_init ?if_Kin_init ?lf_Kin_init ?cf_Kin_init ?kf_Kin_init ?af_Store_init ?if_Store_init ?lf_Store_init ?cf_Store_init ?kf_Store_init ?af_Store_make ?if_Store_make ?lf_Store_make ?cf_Store_make ?kf_Store_make ?af_Store_at ?if_Store_at ?lf_Store_at ?cf_Store_at ?kf_Store_at ?qMOST_HELD ?k_Ref_Builtin ?k_Ref_bool ?k_Ref_int ?k_Ref_str ?k_Builtin_Ref ?k_Builtin_bool ?k_Builtin_int ?k_Builtin_str ?k_Parts_Ref ?k_Parts_Table ?k_Parts_Instance ?k_Parts_Kin ?k_Parts_Builtin ?k_Table_Ref ?k_Table_Parts ?k_Table_Instance ?k_Table_Kin ?k_Table_Builtin ?k_Instance_Ref ?k_Instance_Parts ?k_Instance_Table ?k_Instance_Kin ?k_Instance_Builtin ?k_Kin_Ref ?k_Kin_Parts ?k_Kin_Table ?k_Kin_Instance ?k_Kin_Builtin ?k_Store_Ref ?k_Store_Builtin ?k_NoneType_Ref ?k_NoneType_Builtin ?k_bool_Ref ?k_bool_Builtin ?k_int_Ref ?k_int_Builtin ?k_str_Ref ?k_str_Builtin ?nf_Ref_NoneType ?su_Ref_NoneType ?nf_Ref_int ?su_Ref_int ?nf_Ref_str ?su_Ref_str ?nf_Ref_Builtin ?nf_Builtin_NoneType ?su_Builtin_NoneType ?nf_Builtin_int ?su_Builtin_int ?nf_Builtin_str ?su_Builtin_str ?nf_Builtin_Ref ?zrange ?zlen ?zint ?zstr ?zbool ?zisinstance ?zlist ?ztuple ?zabs ?zmin ?zmax ?zzip ?udLM ?ldLM ?kdLM ?lowLM ?nd0 ?lt0 ?vt0 ?st0 ?lq0 ?vq0 ?sq0 ?nd1 ?lt1 ?vt1 ?st1 ?lq1 ?vq1 ?sq1 ?nd2 ?lt2 ?vt2 ?st2 ?lq2 ?vq2 ?sq2 ?nd3 ?lt3 ?vt3 ?st3 ?lq3 ?vq3 ?sq3 ?nd4 ?lt4 ?vt4 ?st4 ?lq4 ?vq4 ?sq4 ?nd5 ?lt5 ?vt5 ?st5 ?lq5 ?vq5 ?sq5 ?nd6 ?lt6 ?vt6 ?st6 ?lq6 ?vq6 ?sq6 ?nd7 ?lt7 ?vt7 ?st7 ?lq7 ?vq7 ?sq7 ?nd8 ?lt8 ?vt8 ?st8 ?lq8 ?vq8 ?sq8 ?nd9 ?lt9 ?vt9 ?st9 ?lq9 ?vq9 ?sq9
    (case uRef => k_is)
    (case mkRef => k_is)
    (case kcRef => k_is)
    (case pgRef => k_is)
    (case hdRef => k_is)
    (case poRef => k_is)
    (case saRef => k_is)
    (case nRef_number => k_is)
    (case hnTy => k_is)
    (case htTy => k_is)
    (case haRef => k_is)
    (case hmRef => k_is)
    (case uBuiltin => k_is)
    (case mkBuiltin => k_is)
    (case kcBuiltin => k_is)
    (case pgBuiltin => k_is)
    (case hdBuiltin => k_is)
    (case poBuiltin => k_is)
    (case saBuiltin => k_is)
    (case nBuiltin_name => k_is)
    (case haBuiltin => k_is)
    (case hmBuiltin => k_is)
    (case uParts => k_is)
    (case mkParts => k_is)
    (case kcParts => k_is)
    (case pgParts => k_is)
    (case hdParts => k_is)
    (case poParts => k_is)
    (case saParts => k_is)
    (case nParts_held => k_is)
    (case haParts => k_is)
    (case hmParts => k_is)
    (case uTable => k_is)
    (case mkTable => k_is)
    (case kcTable => k_is)
    (case pgTable => k_is)
    (case hdTable => k_is)
    (case poTable => k_is)
    (case saTable => k_is)
    (case nTable__entries => k_is)
    (case haTable => k_is)
    (case hmTable => k_is)
    (case uInstance => k_is)
    (case mkInstance => k_is)
    (case kcInstance => k_is)
    (case pgInstance => k_is)
    (case hdInstance => k_is)
    (case poInstance => k_is)
    (case saInstance => k_is)
    (case haInstance => k_is)
    (case hmInstance => k_is)
    (case uKin => k_is)
    (case mkKin => k_is)
    (case kcKin => k_is)
    (case pgKin => k_is)
    (case hdKin => k_is)
    (case poKin => k_is)
    (case saKin => k_is)
    (case nKin_name => k_is)
    (case nKin_parent => k_is)
    (case nKin_methods => k_is)
    (case haKin => k_is)
    (case hmKin => k_is)
    (case uStore => k_is)
    (case mkStore => k_is)
    (case kcStore => k_is)
    (case pgStore => k_is)
    (case hdStore => k_is)
    (case poStore => k_is)
    (case saStore => k_is)
    (case nStore_things => k_is)
    (case nStore_output => k_is)
    (case nStore_lines => k_is)
    (case nStore_taken => k_is)
    (case haStore => k_is)
    (case hmStore => k_is)
    (case uLivequillError => k_is)
    (case uScriptError => k_is)
    (case xScriptError => k_is)
    (case saScriptError => k_is)
    (case exScriptError => k_is)
    (case tpScriptError => k_is)
    (case kpScriptError => k_is)
    (case n1ScriptError => k_is)
    (case n2ScriptError => k_is)
    (case iScriptError => k_is)
    (case tiScriptError => k_is)
    (case gaScriptError => k_is)
    (case ggScriptError => k_is)
    (case hdScriptError => k_is)
    (case ssScriptError => first | rfl | k_is)
    (case liScriptError => k_is)
    (case ciScriptError => k_is)
    (case coScriptError => k_is)
    (case cvScriptError => rfl)
    (case fiScriptError => first | rfl | decide +kernel)
    (case ceScriptError => k_is)
    (case toSup => first | rfl | decide +kernel)
    (case suSup => k_is)
    (case opSup => k_is)
    (case mrScriptError => k_is)
    (case ksScriptError => ks_is)
    (case vaScriptError => k_is)
    (case haScriptError => k_is)
    (case hmScriptError => k_is)
    (case klScriptErrorLivequillError => kit_is)
    (case af_tagged => k_is)
    (case lf_tagged => k_is)
    (case cf_tagged => k_is)
    (case kf_tagged => k_is)
    (case af_kind_of => k_is)
    (case lf_kind_of => k_is)
    (case cf_kind_of => k_is)
    (case kf_kind_of => k_is)
    (case af_kind_of_thing => k_is)
    (case lf_kind_of_thing => k_is)
    (case cf_kind_of_thing => k_is)
    (case kf_kind_of_thing => k_is)
    (case af_is_key => k_is)
    (case lf_is_key => k_is)
    (case cf_is_key => k_is)
    (case kf_is_key => k_is)
    (case af_check_size => k_is)
    (case lf_check_size => k_is)
    (case cf_check_size => k_is)
    (case kf_check_size => k_is)
    (case af_check_count => k_is)
    (case lf_check_count => k_is)
    (case cf_check_count => k_is)
    (case kf_check_count => k_is)
    (case af_check_arguments => k_is)
    (case lf_check_arguments => k_is)
    (case cf_check_arguments => k_is)
    (case kf_check_arguments => k_is)
    (case af_check_kind => k_is)
    (case lf_check_kind => k_is)
    (case cf_check_kind => k_is)
    (case kf_check_kind => k_is)
    (case af_get_item => k_is)
    (case lf_get_item => k_is)
    (case cf_get_item => k_is)
    (case kf_get_item => k_is)
    (case af_value_at => k_is)
    (case lf_value_at => k_is)
    (case cf_value_at => k_is)
    (case kf_value_at => k_is)
    (case af_set_item => k_is)
    (case lf_set_item => k_is)
    (case cf_set_item => k_is)
    (case kf_set_item => k_is)
    (case af_check_key => k_is)
    (case lf_check_key => k_is)
    (case cf_check_key => k_is)
    (case kf_check_key => k_is)
    (case af_put_entry => k_is)
    (case lf_put_entry => k_is)
    (case cf_put_entry => k_is)
    (case kf_put_entry => k_is)
    (case af_make_list => k_is)
    (case lf_make_list => k_is)
    (case cf_make_list => k_is)
    (case kf_make_list => k_is)
    (case af_make_map => k_is)
    (case lf_make_map => k_is)
    (case cf_make_map => k_is)
    (case kf_make_map => k_is)
    (case af_make_pairs => k_is)
    (case lf_make_pairs => k_is)
    (case cf_make_pairs => k_is)
    (case kf_make_pairs => k_is)
    (case af_has => k_is)
    (case lf_has => k_is)
    (case cf_has => k_is)
    (case kf_has => k_is)
    (case af_keys_of => k_is)
    (case lf_keys_of => k_is)
    (case cf_keys_of => k_is)
    (case kf_keys_of => k_is)
    (case af_values_of => k_is)
    (case lf_values_of => k_is)
    (case cf_values_of => k_is)
    (case kf_values_of => k_is)
    (case af_entries => k_is)
    (case lf_entries => k_is)
    (case cf_entries => k_is)
    (case kf_entries => k_is)
    (case af_get => k_is)
    (case lf_get => k_is)
    (case cf_get => k_is)
    (case kf_get => k_is)
    (case af_merge => k_is)
    (case lf_merge => k_is)
    (case cf_merge => k_is)
    (case kf_merge => k_is)
    (case af_clear => k_is)
    (case lf_clear => k_is)
    (case cf_clear => k_is)
    (case kf_clear => k_is)
    (case af_call_method => k_is)
    (case lf_call_method => k_is)
    (case cf_call_method => k_is)
    (case kf_call_method => k_is)
    (case af_method_for => k_is)
    (case lf_method_for => k_is)
    (case cf_method_for => k_is)
    (case kf_method_for => k_is)
    (case af_law_cell => k_is)
    (case lf_law_cell => k_is)
    (case cf_law_cell => k_is)
    (case kf_law_cell => k_is)
    (case af_law_begin => k_is)
    (case lf_law_begin => k_is)
    (case cf_law_begin => k_is)
    (case kf_law_begin => k_is)
    (case af_law_draw => k_is)
    (case lf_law_draw => k_is)
    (case cf_law_draw => k_is)
    (case kf_law_draw => k_is)
    (case af_law_pick => k_is)
    (case lf_law_pick => k_is)
    (case cf_law_pick => k_is)
    (case kf_law_pick => k_is)
    (case af_law_key => k_is)
    (case lf_law_key => k_is)
    (case cf_law_key => k_is)
    (case kf_law_key => k_is)
    (case af_law_same => k_is)
    (case lf_law_same => k_is)
    (case cf_law_same => k_is)
    (case kf_law_same => k_is)
    (case af_law_at => k_is)
    (case lf_law_at => k_is)
    (case cf_law_at => k_is)
    (case kf_law_at => k_is)
    (case af_law_put => k_is)
    (case lf_law_put => k_is)
    (case cf_law_put => k_is)
    (case kf_law_put => k_is)
    (case af_law_pairs => k_is)
    (case lf_law_pairs => k_is)
    (case cf_law_pairs => k_is)
    (case kf_law_pairs => k_is)
    (case af_law_try => k_is)
    (case lf_law_try => k_is)
    (case cf_law_try => k_is)
    (case kf_law_try => k_is)
    (case af_law_is => k_is)
    (case lf_law_is => k_is)
    (case cf_law_is => k_is)
    (case kf_law_is => k_is)
    (case af_law_taken => k_is)
    (case lf_law_taken => k_is)
    (case cf_law_taken => k_is)
    (case kf_law_taken => k_is)
    (case af_law_set => k_is)
    (case lf_law_set => k_is)
    (case cf_law_set => k_is)
    (case kf_law_set => k_is)
    (case af_law_read => k_is)
    (case lf_law_read => k_is)
    (case cf_law_read => k_is)
    (case kf_law_read => k_is)
    (case af_law_listed => k_is)
    (case lf_law_listed => k_is)
    (case cf_law_listed => k_is)
    (case kf_law_listed => k_is)
    (case af_law_merged => k_is)
    (case lf_law_merged => k_is)
    (case cf_law_merged => k_is)
    (case kf_law_merged => k_is)
    (case af_law_step => k_is)
    (case lf_law_step => k_is)
    (case cf_law_step => k_is)
    (case kf_law_step => k_is)
    (case alaw => k_is)
    (case llaw => k_is)
    (case claw => k_is)
    (case klaw => k_is)
    (case af_take_out_maps => k_is)
    (case lf_take_out_maps => k_is)
    (case cf_take_out_maps => k_is)
    (case kf_take_out_maps => k_is)
    (case af_copy_maps => k_is)
    (case lf_copy_maps => k_is)
    (case cf_copy_maps => k_is)
    (case kf_copy_maps => k_is)
    (case af_length_maps => k_is)
    (case lf_length_maps => k_is)
    (case cf_length_maps => k_is)
    (case kf_length_maps => k_is)
    (case af_Ref_init => k_is)
    (case if_Ref_init => k_is)
    (case lf_Ref_init => k_is)
    (case cf_Ref_init => k_is)
    (case kf_Ref_init => k_is)
    (case af_Ref_eq => k_is)
    (case if_Ref_eq => k_is)
    (case lf_Ref_eq => k_is)
    (case cf_Ref_eq => k_is)
    (case kf_Ref_eq => k_is)
    (case af_Builtin_init => k_is)
    (case if_Builtin_init => k_is)
    (case lf_Builtin_init => k_is)
    (case cf_Builtin_init => k_is)
    (case kf_Builtin_init => k_is)
    (case af_Builtin_eq => k_is)
    (case if_Builtin_eq => k_is)
    (case lf_Builtin_eq => k_is)
    (case cf_Builtin_eq => k_is)
    (case kf_Builtin_eq => k_is)
    (case af_Parts_init => k_is)
    (case if_Parts_init => k_is)
    (case lf_Parts_init => k_is)
    (case cf_Parts_init => k_is)
    (case kf_Parts_init => k_is)
    (case af_Table_init => k_is)
    (case if_Table_init => k_is)
    (case lf_Table_init => k_is)
    (case cf_Table_init => k_is)
    (case kf_Table_init => k_is)
    (case af_Table_has => k_is)
    (case if_Table_has => k_is)
    (case lf_Table_has => k_is)
    (case cf_Table_has => k_is)
    (case kf_Table_has => k_is)
    (case af_Table_value_of => k_is)
    (case if_Table_value_of => k_is)
    (case lf_Table_value_of => k_is)
    (case cf_Table_value_of => k_is)
    (case kf_Table_value_of => k_is)
    (case af_Table_put => k_is)
    (case if_Table_put => k_is)
    (case lf_Table_put => k_is)
    (case cf_Table_put => k_is)
    (case kf_Table_put => k_is)
    (case af_Table_take_out => k_is)
    (case if_Table_take_out => k_is)
    (case lf_Table_take_out => k_is)
    (case cf_Table_take_out => k_is)
    (case kf_Table_take_out => k_is)
    (case af_Table_pairs => k_is)
    (case if_Table_pairs => k_is)
    (case lf_Table_pairs => k_is)
    (case cf_Table_pairs => k_is)
    (case kf_Table_pairs => k_is)
    (case af_Table_many => k_is)
    (case pgtf_Table_many => k_is)
    (case ptkf_Table_many => k_is)
    (case prcf_Table_many => k_is)
    (case lf_Table_many => k_is)
    (case cf_Table_many => k_is)
    (case kf_Table_many => k_is)
    (case af_Kin_init => k_is)
    (case if_Kin_init => k_is)
    (case lf_Kin_init => k_is)
    (case cf_Kin_init => k_is)
    (case kf_Kin_init => k_is)
    (case af_Store_init => k_is)
    (case if_Store_init => k_is)
    (case lf_Store_init => k_is)
    (case cf_Store_init => k_is)
    (case kf_Store_init => k_is)
    (case af_Store_make => k_is)
    (case if_Store_make => k_is)
    (case lf_Store_make => k_is)
    (case cf_Store_make => k_is)
    (case kf_Store_make => k_is)
    (case af_Store_at => k_is)
    (case if_Store_at => k_is)
    (case lf_Store_at => k_is)
    (case cf_Store_at => k_is)
    (case kf_Store_at => k_is)
    (case qMOST_HELD => k_is)
    (case k_Ref_Builtin => kit_is)
    (case k_Ref_bool => kit_is)
    (case k_Ref_int => kit_is)
    (case k_Ref_str => kit_is)
    (case k_Builtin_Ref => kit_is)
    (case k_Builtin_bool => kit_is)
    (case k_Builtin_int => kit_is)
    (case k_Builtin_str => kit_is)
    (case k_Parts_Ref => kit_is)
    (case k_Parts_Table => kit_is)
    (case k_Parts_Instance => kit_is)
    (case k_Parts_Kin => kit_is)
    (case k_Parts_Builtin => kit_is)
    (case k_Table_Ref => kit_is)
    (case k_Table_Parts => kit_is)
    (case k_Table_Instance => kit_is)
    (case k_Table_Kin => kit_is)
    (case k_Table_Builtin => kit_is)
    (case k_Instance_Ref => kit_is)
    (case k_Instance_Parts => kit_is)
    (case k_Instance_Table => kit_is)
    (case k_Instance_Kin => kit_is)
    (case k_Instance_Builtin => kit_is)
    (case k_Kin_Ref => kit_is)
    (case k_Kin_Parts => kit_is)
    (case k_Kin_Table => kit_is)
    (case k_Kin_Instance => kit_is)
    (case k_Kin_Builtin => kit_is)
    (case k_Store_Ref => kit_is)
    (case k_Store_Builtin => kit_is)
    (case k_NoneType_Ref => kit_is)
    (case k_NoneType_Builtin => kit_is)
    (case k_bool_Ref => kit_is)
    (case k_bool_Builtin => kit_is)
    (case k_int_Ref => kit_is)
    (case k_int_Builtin => kit_is)
    (case k_str_Ref => kit_is)
    (case k_str_Builtin => kit_is)
    (case nf_Ref_NoneType => k_is)
    (case su_Ref_NoneType => k_is)
    (case nf_Ref_int => k_is)
    (case su_Ref_int => k_is)
    (case nf_Ref_str => k_is)
    (case su_Ref_str => k_is)
    (case nf_Ref_Builtin => k_is)
    (case nf_Builtin_NoneType => k_is)
    (case su_Builtin_NoneType => k_is)
    (case nf_Builtin_int => k_is)
    (case su_Builtin_int => k_is)
    (case nf_Builtin_str => k_is)
    (case su_Builtin_str => k_is)
    (case nf_Builtin_Ref => k_is)
    (case zrange => k_is)
    (case zlen => k_is)
    (case zint => k_is)
    (case zstr => k_is)
    (case zbool => k_is)
    (case zisinstance => k_is)
    (case zlist => k_is)
    (case ztuple => k_is)
    (case zabs => k_is)
    (case zmin => k_is)
    (case zmax => k_is)
    (case zzip => k_is)
    (case udLM => k_is)
    (case ldLM => k_is)
    (case kdLM => repeat (first | exact trivial | refine ⟨⟨_, _, rfl, rfl⟩, ?_⟩))
    (case lowLM => first | rfl | decide +kernel)
    (case nd0 => k_is)
    (case lt0 => k_is)
    (case vt0 => exact PySem.Paired.cons rfl (PySem.Paired.cons rfl PySem.Paired.nil))
    (case st0 => (rw [sizeLine_eq]; decide))
    (case lq0 => k_is)
    (case vq0 => repeat (first | exact PySem.Paired.nil | refine PySem.Paired.cons ⟨_, rfl⟩ ?_))
    (case sq0 => (rw [sizeLine_eq]; decide))
    (case nd1 => k_is)
    (case lt1 => k_is)
    (case vt1 => exact PySem.Paired.cons rfl (PySem.Paired.cons rfl PySem.Paired.nil))
    (case st1 => (rw [sizeLine_eq]; decide))
    (case lq1 => k_is)
    (case vq1 => repeat (first | exact PySem.Paired.nil | refine PySem.Paired.cons ⟨_, rfl⟩ ?_))
    (case sq1 => (rw [sizeLine_eq]; decide))
    (case nd2 => k_is)
    (case lt2 => k_is)
    (case vt2 => exact PySem.Paired.cons rfl (PySem.Paired.cons rfl PySem.Paired.nil))
    (case st2 => (rw [sizeLine_eq]; decide))
    (case lq2 => k_is)
    (case vq2 => repeat (first | exact PySem.Paired.nil | refine PySem.Paired.cons ⟨_, rfl⟩ ?_))
    (case sq2 => (rw [sizeLine_eq]; decide))
    (case nd3 => k_is)
    (case lt3 => k_is)
    (case vt3 => exact PySem.Paired.cons rfl (PySem.Paired.cons rfl PySem.Paired.nil))
    (case st3 => (rw [sizeLine_eq]; decide))
    (case lq3 => k_is)
    (case vq3 => repeat (first | exact PySem.Paired.nil | refine PySem.Paired.cons ⟨_, rfl⟩ ?_))
    (case sq3 => (rw [sizeLine_eq]; decide))
    (case nd4 => k_is)
    (case lt4 => k_is)
    (case vt4 => exact PySem.Paired.cons rfl (PySem.Paired.cons rfl PySem.Paired.nil))
    (case st4 => (rw [sizeLine_eq]; decide))
    (case lq4 => k_is)
    (case vq4 => repeat (first | exact PySem.Paired.nil | refine PySem.Paired.cons ⟨_, rfl⟩ ?_))
    (case sq4 => (rw [sizeLine_eq]; decide))
    (case nd5 => k_is)
    (case lt5 => k_is)
    (case vt5 => exact PySem.Paired.cons rfl (PySem.Paired.cons rfl PySem.Paired.nil))
    (case st5 => (rw [sizeLine_eq]; decide))
    (case lq5 => k_is)
    (case vq5 => repeat (first | exact PySem.Paired.nil | refine PySem.Paired.cons ⟨_, rfl⟩ ?_))
    (case sq5 => (rw [sizeLine_eq]; decide))
    (case nd6 => k_is)
    (case lt6 => k_is)
    (case vt6 => exact PySem.Paired.cons rfl (PySem.Paired.cons rfl PySem.Paired.nil))
    (case st6 => (rw [sizeLine_eq]; decide))
    (case lq6 => k_is)
    (case vq6 => repeat (first | exact PySem.Paired.nil | refine PySem.Paired.cons ⟨_, rfl⟩ ?_))
    (case sq6 => (rw [sizeLine_eq]; decide))
    (case nd7 => k_is)
    (case lt7 => k_is)
    (case vt7 => exact PySem.Paired.cons rfl (PySem.Paired.cons rfl PySem.Paired.nil))
    (case st7 => (rw [sizeLine_eq]; decide))
    (case lq7 => k_is)
    (case vq7 => repeat (first | exact PySem.Paired.nil | refine PySem.Paired.cons ⟨_, rfl⟩ ?_))
    (case sq7 => (rw [sizeLine_eq]; decide))
    (case nd8 => k_is)
    (case lt8 => k_is)
    (case vt8 => exact PySem.Paired.cons rfl (PySem.Paired.cons rfl PySem.Paired.nil))
    (case st8 => (rw [sizeLine_eq]; decide))
    (case lq8 => k_is)
    (case vq8 => repeat (first | exact PySem.Paired.nil | refine PySem.Paired.cons ⟨_, rfl⟩ ?_))
    (case sq8 => (rw [sizeLine_eq]; decide))
    (case nd9 => k_is)
    (case lt9 => k_is)
    (case vt9 => exact PySem.Paired.cons rfl (PySem.Paired.cons rfl PySem.Paired.nil))
    (case st9 => (rw [sizeLine_eq]; decide))
    (case lq9 => k_is)
    (case vq9 => repeat (first | exact PySem.Paired.nil | refine PySem.Paired.cons ⟨_, rfl⟩ ?_))
    (case sq9 => (rw [sizeLine_eq]; decide))
